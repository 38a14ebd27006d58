/- THE WALKS of package snap: New, All, check, Put, Get, Scan; nil registers. -/
import Derived.Test.YtdadgppbpomdoaaPa
namespace Go.Proofs.Ytdadgppbpomdoaa
open Go Go.RowKit

theorem Part.on {S : List Nat} {w w1 w2 : World} (h : Part S w w1) (hb : Below w1.heap.size w1 w2) : Part S w w2 := h.then_ (Part.of_below hb (Nat.le_refl _) S)
theorem Part.end_ {w w1 : World} (h : Part [] w w1) : Below w.heap.size w w1 := h.below (Nat.le_refl _) (by simp)
theorem Row.of_eq {w : World} {b : Nat} {t : TypeId} {l l' : List Value} (h : Row w b t l) (e : l = l') : Row w b t l' := e ▸ h
theorem Words.drewN {w : World} {bk bw : Nat} {ws : List Int} (h : Words w bk bw ws) (n : Nat) : Words (w.drewN n) bk bw ws := ⟨h.head, h.row, h.few, h.ok⟩
theorem Row.drewN {w : World} {b : Nat} {t : TypeId} {l : List Value} (h : Row w b t l) (n : Nat) : Row (w.drewN n) b t l := h
theorem Words.on {w w' : World} {bk bw : Nat} {ws : List Int} (h : Words w bk bw ws) (hb : Below w.heap.size w w') : Words w' bk bw ws := h.below hb h.head.lt h.row.lt

theorem Below.draws {B : Nat} {w w' : World} (h : Below B w w') (n : Nat) : Below B w (w'.drewN n) := ⟨h.os, h.tape, h.output, h.size, h.block⟩

/-- registers at block br, whose words are ws -/
structure Regs (w : World) (br bk bw : Nat) (ws : List Int) : Prop where
  head : Row w br 78 [.pointer (some ⟨bk, 0, none⟩)]
  words : Words w bk bw ws
  pos : 0 < ws.length
  top : ws.length ≤ 64
section
variable {w w' : World} {br bk bw : Nat} {ws ws' : List Int}
theorem Regs.hc (h : Regs w br bk bw ws) : w.cell? ⟨br, 0, none⟩ = some (.pointer (some ⟨bk, 0, none⟩)) := h.head.cell 0
theorem Regs.ne (h : Regs w br bk bw ws) : br ≠ bw := h.head.ne h.words.row (by decide)
theorem Regs.part {S : List Nat} (h : Regs w br bk bw ws) (hp : Part S w w') (h0 : br ∉ S) (h1 : bk ∉ S) (h2 : bw ∉ S) : Regs w' br bk bw ws := ⟨h.head.part hp h0, h.words.part hp h1 h2, h.pos, h.top⟩
theorem Regs.on (h : Regs w br bk bw ws) (hb : Below w.heap.size w w') : Regs w' br bk bw ws := h.part (Part.of_below hb (Nat.le_refl _) []) (by simp) (by simp) (by simp)
theorem Regs.alloc (h : Regs w br bk bw ws) (o : Obj) : Regs (w.alloc o) br bk bw ws := ⟨h.head.alloc o, h.words.alloc o, h.pos, h.top⟩
theorem Regs.drewN (h : Regs w br bk bw ws) (n : Nat) : Regs (w.drewN n) br bk bw ws := ⟨h.head, h.words.drewN n, h.pos, h.top⟩
theorem Regs.set (h : Regs w br bk bw ws) (i : Nat) {x : Int} (hx : U64 x) : Regs (w.setCell ⟨bw, i, none⟩ (.int .u64 x)) br bk bw (ws.set i x) :=
  ⟨h.head.far (p := ⟨bw, i, none⟩) (fun e => h.ne e.symm) _, h.words.set i hx, by rw [List.length_set]; exact h.pos, by rw [List.length_set]; exact h.top⟩
/-- behind a step that turned the words alone -/
theorem Regs.next {S : List Nat} (h : Regs w br bk bw ws) (hP : Part S w w') (hW : Words w' bk bw ws') (h0 : br ∉ S) (hl : ws'.length = ws.length) : Regs w' br bk bw ws' :=
  ⟨h.head.part hP h0, hW, by rw [hl]; exact h.pos, by rw [hl]; exact h.top⟩
end

set_option maxRecDepth 100000
/-- what New leaves -/
def FreshR (w : World) (n : Nat) (e : Ending) (w' : World) : Prop :=
  ∃ br bk bw, e = .returned (.tuple #[.pointer (some ⟨br, 0, none⟩), .int .i64 0]) ∧ w.heap.size ≤ br ∧ w.heap.size ≤ bk ∧ w.heap.size ≤ bw ∧ Regs w' br bk bw (List.replicate n 0) ∧ Below w.heap.size w w'
theorem rnew_no {w : World} {n : Int} (h : n < 1 ∨ 64 < n) : Calls Try.prog 10 #[.int .i64 n] w fun e w' => e = .returned (.tuple #[.pointer none, .int .i64 2]) ∧ w = w' := by
  rcases h with h | h
  · go_enter Try.func10, Try.ntmps10
    go_wp2
    go_ret2
    exact ⟨rfl, rfl⟩
  · have h' : decide (n < 1) = false := by simp; omega
    have h'' : decide (64 < n) = true := by simp; omega
    go_enter Try.func10, Try.ntmps10
    go_wp2
    go_ret2
    exact ⟨rfl, rfl⟩
theorem rnew_yes (w : World) {n : Nat} (h1 : 1 ≤ n) (h2 : n ≤ 64) : Calls Try.prog 10 #[.int .i64 (n : Int)] w (FreshR w n) := by
  have g1 : decide ((n : Int) < 1) = false := by simp; omega
  have g2 : decide ((64 : Int) < (n : Int)) = false := by simp; omega
  have H1 := Lib.hid h1
  have H2 := Lib.hid h2
  have H3 : Hid (n ≤ 65536) := Lib.hid (by omega)
  clear h1 h2
  go_enter Try.func10, Try.ntmps10
  go_wp2_with (go_at_call 28; refine (new_yes _ H3.out).mono ?_; rintro e w1 ⟨bk, bw, rfl, hk, hw, hW, hb⟩; have HK := Lib.hid hk; have HW := Lib.hid hw; have HS := Lib.hid hW; have HB := Lib.hid hb; clear hk hw hW hb)
  go_ret2
  have hs := HB.out.size
  exact ⟨w1.heap.size, bk, bw, rfl, hs, HK.out, HW.out, ⟨Row.new _ _ _, HS.out.alloc _, by rw [List.length_replicate]; exact H1.out, by rw [List.length_replicate]; exact H2.out⟩, HB.out.alloc hs _⟩

theorem rall_nil (w : World) : Calls Try.prog 20 #[.pointer none] w fun e w' => e = .returned (.slice none 0 0) ∧ w = w' := by
  go_enter Try.func20, Try.ntmps20
  go_wp2
  go_ret
  exact ⟨rfl, rfl⟩
theorem rall_any {w : World} {br bk bw : Nat} {ws : List Int} (h : Regs w br bk bw ws) :
    Calls Try.prog 20 #[.pointer (some ⟨br, 0, none⟩)] w (RegsTo w ws) := by
  have hc := h.hc
  have H := Lib.hid h
  clear h
  go_enter Try.func20, Try.ntmps20
  go_wp2_with (first
    | (go_at_call 38; refine (all_any H.out.words).mono ?_; rintro e w1 ⟨b, rfl, hb, hr, hbl⟩; have HB := Lib.hid hb; have HR := Lib.hid hr; have HL := Lib.hid hbl; clear hb hr hbl)
    | (go_at_call 37; refine (regsof_any HR.out.lies HR.out.lt H.out.words.ok H.out.words.few).mono ?_; rintro e w2 ⟨b2, rfl, hb, hr, hbl⟩; have HB2 := Lib.hid hb; have HR2 := Lib.hid hr; have HL2 := Lib.hid hbl; clear hb hr hbl))
  go_ret
  exact ⟨b2, rfl, Nat.le_trans HL.out.size HB2.out, HR2.out, HL.out.trans (HL2.out.mono HL.out.size)⟩

/-- is an operation right -/
def rightS (n : Nat) (k r v t : Int) : Bool :=
  (k == 1 && decide (0 ≤ r) && decide (r < (n : Int)) && t == 0) || (k == 2 && decide (0 ≤ r) && decide (r < (n : Int)) && v == 0 && t == 0) ||
  (k == 3 && r == 0 && v == 0 && decide (1 ≤ t) && decide (t ≤ 1024))
theorem rr_1a {w : World} {br bk bw : Nat} {ws : List Int} (h : Regs w br bk bw ws) (k r v t : Int) (kk1 : (k == 1) = true) (kk2 : (k == 2) = false) (kk3 : (k == 3) = false) (d0 : decide (0 ≤ r) = false) :
    Calls Try.prog 44 #[.pointer (some ⟨br, 0, none⟩), .agg #[.int .u8 k, .int .i64 r, .int .u32 v, .int .i64 t]] w fun e w' => e = .returned (.bool (rightS ws.length k r v t)) ∧ Below w.heap.size w w' := by
  have hc := h.hc
  have hlt := h.head.lt
  have hne : ¬ br = w.heap.size := by omega
  have hne' : ¬ w.heap.size = br := by omega
  have H := Lib.hid h
  clear h
  have E : Hid (rightS ws.length k r v t = false) := Lib.hid (by simp [rightS, kk1, kk2, kk3, d0])
  go_enter Try.func44, Try.ntmps44
  go_wp2
  go_quiet ((go_at_call 48; exact Calls.quiet_of_same ((len_any ((H.out.words.alloc _).drewN _)).mono fun _ _ ⟨a, b⟩ => ⟨a, b.symm⟩)))
  go_wp2
  go_ret
  rw [E.out]
  exact ⟨rfl, Below.draws ((Below.refl _ _).alloc (Nat.le_refl _) _) _⟩
theorem rr_1b {w : World} {br bk bw : Nat} {ws : List Int} (h : Regs w br bk bw ws) (k r v t : Int) (kk1 : (k == 1) = true) (kk2 : (k == 2) = false) (kk3 : (k == 3) = false) (d0 : decide (0 ≤ r) = true) (d1 : decide (r < (ws.length : Int)) = false) :
    Calls Try.prog 44 #[.pointer (some ⟨br, 0, none⟩), .agg #[.int .u8 k, .int .i64 r, .int .u32 v, .int .i64 t]] w fun e w' => e = .returned (.bool (rightS ws.length k r v t)) ∧ Below w.heap.size w w' := by
  have hc := h.hc
  have hlt := h.head.lt
  have hne : ¬ br = w.heap.size := by omega
  have hne' : ¬ w.heap.size = br := by omega
  have H := Lib.hid h
  clear h
  have E : Hid (rightS ws.length k r v t = false) := Lib.hid (by simp [rightS, kk1, kk2, kk3, d0, d1])
  go_enter Try.func44, Try.ntmps44
  go_wp2
  go_quiet ((go_at_call 48; exact Calls.quiet_of_same ((len_any ((H.out.words.alloc _).drewN _)).mono fun _ _ ⟨a, b⟩ => ⟨a, b.symm⟩)))
  go_wp2
  go_ret
  rw [E.out]
  exact ⟨rfl, Below.draws ((Below.refl _ _).alloc (Nat.le_refl _) _) _⟩
theorem rr_2a {w : World} {br bk bw : Nat} {ws : List Int} (h : Regs w br bk bw ws) (k r v t : Int) (kk1 : (k == 1) = false) (kk2 : (k == 2) = true) (kk3 : (k == 3) = false) (d0 : decide (0 ≤ r) = false) :
    Calls Try.prog 44 #[.pointer (some ⟨br, 0, none⟩), .agg #[.int .u8 k, .int .i64 r, .int .u32 v, .int .i64 t]] w fun e w' => e = .returned (.bool (rightS ws.length k r v t)) ∧ Below w.heap.size w w' := by
  have hc := h.hc
  have hlt := h.head.lt
  have hne : ¬ br = w.heap.size := by omega
  have hne' : ¬ w.heap.size = br := by omega
  have H := Lib.hid h
  clear h
  have E : Hid (rightS ws.length k r v t = false) := Lib.hid (by simp [rightS, kk1, kk2, kk3, d0])
  go_enter Try.func44, Try.ntmps44
  go_wp2
  go_quiet ((go_at_call 48; exact Calls.quiet_of_same ((len_any ((H.out.words.alloc _).drewN _)).mono fun _ _ ⟨a, b⟩ => ⟨a, b.symm⟩)))
  go_wp2
  go_ret
  rw [E.out]
  exact ⟨rfl, Below.draws ((Below.refl _ _).alloc (Nat.le_refl _) _) _⟩
theorem rr_2b {w : World} {br bk bw : Nat} {ws : List Int} (h : Regs w br bk bw ws) (k r v t : Int) (kk1 : (k == 1) = false) (kk2 : (k == 2) = true) (kk3 : (k == 3) = false) (d0 : decide (0 ≤ r) = true) (d1 : decide (r < (ws.length : Int)) = false) :
    Calls Try.prog 44 #[.pointer (some ⟨br, 0, none⟩), .agg #[.int .u8 k, .int .i64 r, .int .u32 v, .int .i64 t]] w fun e w' => e = .returned (.bool (rightS ws.length k r v t)) ∧ Below w.heap.size w w' := by
  have hc := h.hc
  have hlt := h.head.lt
  have hne : ¬ br = w.heap.size := by omega
  have hne' : ¬ w.heap.size = br := by omega
  have H := Lib.hid h
  clear h
  have E : Hid (rightS ws.length k r v t = false) := Lib.hid (by simp [rightS, kk1, kk2, kk3, d0, d1])
  go_enter Try.func44, Try.ntmps44
  go_wp2
  go_quiet ((go_at_call 48; exact Calls.quiet_of_same ((len_any ((H.out.words.alloc _).drewN _)).mono fun _ _ ⟨a, b⟩ => ⟨a, b.symm⟩)))
  go_wp2
  go_ret
  rw [E.out]
  exact ⟨rfl, Below.draws ((Below.refl _ _).alloc (Nat.le_refl _) _) _⟩
theorem rr_1c {w : World} {br bk bw : Nat} {ws : List Int} (h : Regs w br bk bw ws) (k r v t : Int) (kk1 : (k == 1) = true) (kk2 : (k == 2) = false) (kk3 : (k == 3) = false) (d0 : decide (0 ≤ r) = true) (d1 : decide (r < (ws.length : Int)) = true) :
    Calls Try.prog 44 #[.pointer (some ⟨br, 0, none⟩), .agg #[.int .u8 k, .int .i64 r, .int .u32 v, .int .i64 t]] w fun e w' => e = .returned (.bool (rightS ws.length k r v t)) ∧ Below w.heap.size w w' := by
  have hc := h.hc
  have hlt := h.head.lt
  have hne : ¬ br = w.heap.size := by omega
  have hne' : ¬ w.heap.size = br := by omega
  have H := Lib.hid h
  clear h
  have E : Hid (rightS ws.length k r v t = (t == 0)) := Lib.hid (by simp [rightS, kk1, kk2, kk3, d0, d1])
  go_enter Try.func44, Try.ntmps44
  go_wp2
  go_quiet ((go_at_call 48; exact Calls.quiet_of_same ((len_any ((H.out.words.alloc _).drewN _)).mono fun _ _ ⟨a, b⟩ => ⟨a, b.symm⟩)))
  go_wp2
  go_ret
  rw [E.out]
  exact ⟨rfl, Below.draws ((Below.refl _ _).alloc (Nat.le_refl _) _) _⟩
theorem rr_2c {w : World} {br bk bw : Nat} {ws : List Int} (h : Regs w br bk bw ws) (k r v t : Int) (kk1 : (k == 1) = false) (kk2 : (k == 2) = true) (kk3 : (k == 3) = false) (d0 : decide (0 ≤ r) = true) (d1 : decide (r < (ws.length : Int)) = true) (v0 : (v == 0) = false) :
    Calls Try.prog 44 #[.pointer (some ⟨br, 0, none⟩), .agg #[.int .u8 k, .int .i64 r, .int .u32 v, .int .i64 t]] w fun e w' => e = .returned (.bool (rightS ws.length k r v t)) ∧ Below w.heap.size w w' := by
  have hc := h.hc
  have hlt := h.head.lt
  have hne : ¬ br = w.heap.size := by omega
  have hne' : ¬ w.heap.size = br := by omega
  have H := Lib.hid h
  clear h
  have E : Hid (rightS ws.length k r v t = false) := Lib.hid (by simp [rightS, kk1, kk2, kk3, d0, d1, v0])
  go_enter Try.func44, Try.ntmps44
  go_wp2
  go_quiet ((go_at_call 48; exact Calls.quiet_of_same ((len_any ((H.out.words.alloc _).drewN _)).mono fun _ _ ⟨a, b⟩ => ⟨a, b.symm⟩)))
  go_wp2
  go_ret
  rw [E.out]
  exact ⟨rfl, Below.draws ((Below.refl _ _).alloc (Nat.le_refl _) _) _⟩
theorem rr_2d {w : World} {br bk bw : Nat} {ws : List Int} (h : Regs w br bk bw ws) (k r v t : Int) (kk1 : (k == 1) = false) (kk2 : (k == 2) = true) (kk3 : (k == 3) = false) (d0 : decide (0 ≤ r) = true) (d1 : decide (r < (ws.length : Int)) = true) (v0 : (v == 0) = true) :
    Calls Try.prog 44 #[.pointer (some ⟨br, 0, none⟩), .agg #[.int .u8 k, .int .i64 r, .int .u32 v, .int .i64 t]] w fun e w' => e = .returned (.bool (rightS ws.length k r v t)) ∧ Below w.heap.size w w' := by
  have hc := h.hc
  have hlt := h.head.lt
  have hne : ¬ br = w.heap.size := by omega
  have hne' : ¬ w.heap.size = br := by omega
  have H := Lib.hid h
  clear h
  have E : Hid (rightS ws.length k r v t = (t == 0)) := Lib.hid (by simp [rightS, kk1, kk2, kk3, d0, d1, v0])
  go_enter Try.func44, Try.ntmps44
  go_wp2
  go_quiet ((go_at_call 48; exact Calls.quiet_of_same ((len_any ((H.out.words.alloc _).drewN _)).mono fun _ _ ⟨a, b⟩ => ⟨a, b.symm⟩)))
  go_wp2
  go_ret
  rw [E.out]
  exact ⟨rfl, Below.draws ((Below.refl _ _).alloc (Nat.le_refl _) _) _⟩
theorem rr_0a {w : World} {br bk bw : Nat} {ws : List Int} (h : Regs w br bk bw ws) (k r v t : Int) (kk1 : (k == 1) = false) (kk2 : (k == 2) = false) (kk3 : (k == 3) = false) (d0 : decide (0 ≤ r) = false) :
    Calls Try.prog 44 #[.pointer (some ⟨br, 0, none⟩), .agg #[.int .u8 k, .int .i64 r, .int .u32 v, .int .i64 t]] w fun e w' => e = .returned (.bool (rightS ws.length k r v t)) ∧ Below w.heap.size w w' := by
  have hc := h.hc
  have hlt := h.head.lt
  have hne : ¬ br = w.heap.size := by omega
  have hne' : ¬ w.heap.size = br := by omega
  have H := Lib.hid h
  clear h
  have E : Hid (rightS ws.length k r v t = false) := Lib.hid (by simp [rightS, kk1, kk2, kk3, d0])
  go_enter Try.func44, Try.ntmps44
  go_wp2
  go_quiet ((go_at_call 48; exact Calls.quiet_of_same ((len_any ((H.out.words.alloc _).drewN _)).mono fun _ _ ⟨a, b⟩ => ⟨a, b.symm⟩)))
  go_wp2
  go_ret
  rw [E.out]
  exact ⟨rfl, Below.draws ((Below.refl _ _).alloc (Nat.le_refl _) _) _⟩
theorem rr_0b {w : World} {br bk bw : Nat} {ws : List Int} (h : Regs w br bk bw ws) (k r v t : Int) (kk1 : (k == 1) = false) (kk2 : (k == 2) = false) (kk3 : (k == 3) = false) (d0 : decide (0 ≤ r) = true) :
    Calls Try.prog 44 #[.pointer (some ⟨br, 0, none⟩), .agg #[.int .u8 k, .int .i64 r, .int .u32 v, .int .i64 t]] w fun e w' => e = .returned (.bool (rightS ws.length k r v t)) ∧ Below w.heap.size w w' := by
  have hc := h.hc
  have hlt := h.head.lt
  have hne : ¬ br = w.heap.size := by omega
  have hne' : ¬ w.heap.size = br := by omega
  have H := Lib.hid h
  clear h
  have E : Hid (rightS ws.length k r v t = false) := Lib.hid (by simp [rightS, kk1, kk2, kk3, d0])
  go_enter Try.func44, Try.ntmps44
  go_wp2
  go_quiet ((go_at_call 48; exact Calls.quiet_of_same ((len_any ((H.out.words.alloc _).drewN _)).mono fun _ _ ⟨a, b⟩ => ⟨a, b.symm⟩)))
  go_wp2
  go_ret
  rw [E.out]
  exact ⟨rfl, Below.draws ((Below.refl _ _).alloc (Nat.le_refl _) _) _⟩
theorem rr_3a {w : World} {br bk bw : Nat} {ws : List Int} (h : Regs w br bk bw ws) (k r v t : Int) (kk1 : (k == 1) = false) (kk2 : (k == 2) = false) (kk3 : (k == 3) = true) (d0 : decide (0 ≤ r) = false) (r0 : (r == 0) = false) :
    Calls Try.prog 44 #[.pointer (some ⟨br, 0, none⟩), .agg #[.int .u8 k, .int .i64 r, .int .u32 v, .int .i64 t]] w fun e w' => e = .returned (.bool (rightS ws.length k r v t)) ∧ Below w.heap.size w w' := by
  have hc := h.hc
  have hlt := h.head.lt
  have hne : ¬ br = w.heap.size := by omega
  have hne' : ¬ w.heap.size = br := by omega
  have H := Lib.hid h
  clear h
  have E : Hid (rightS ws.length k r v t = false) := Lib.hid (by simp [rightS, kk1, kk2, kk3, d0, r0])
  go_enter Try.func44, Try.ntmps44
  go_wp2
  go_quiet ((go_at_call 48; exact Calls.quiet_of_same ((len_any ((H.out.words.alloc _).drewN _)).mono fun _ _ ⟨a, b⟩ => ⟨a, b.symm⟩)))
  go_wp2
  go_ret
  rw [E.out]
  exact ⟨rfl, Below.draws ((Below.refl _ _).alloc (Nat.le_refl _) _) _⟩
theorem rr_3b {w : World} {br bk bw : Nat} {ws : List Int} (h : Regs w br bk bw ws) (k r v t : Int) (kk1 : (k == 1) = false) (kk2 : (k == 2) = false) (kk3 : (k == 3) = true) (d0 : decide (0 ≤ r) = true) (r0 : (r == 0) = false) :
    Calls Try.prog 44 #[.pointer (some ⟨br, 0, none⟩), .agg #[.int .u8 k, .int .i64 r, .int .u32 v, .int .i64 t]] w fun e w' => e = .returned (.bool (rightS ws.length k r v t)) ∧ Below w.heap.size w w' := by
  have hc := h.hc
  have hlt := h.head.lt
  have hne : ¬ br = w.heap.size := by omega
  have hne' : ¬ w.heap.size = br := by omega
  have H := Lib.hid h
  clear h
  have E : Hid (rightS ws.length k r v t = false) := Lib.hid (by simp [rightS, kk1, kk2, kk3, d0, r0])
  go_enter Try.func44, Try.ntmps44
  go_wp2
  go_quiet ((go_at_call 48; exact Calls.quiet_of_same ((len_any ((H.out.words.alloc _).drewN _)).mono fun _ _ ⟨a, b⟩ => ⟨a, b.symm⟩)))
  go_wp2
  go_ret
  rw [E.out]
  exact ⟨rfl, Below.draws ((Below.refl _ _).alloc (Nat.le_refl _) _) _⟩
theorem rr_3c {w : World} {br bk bw : Nat} {ws : List Int} (h : Regs w br bk bw ws) (k r v t : Int) (kk1 : (k == 1) = false) (kk2 : (k == 2) = false) (kk3 : (k == 3) = true) (d0 : decide (0 ≤ r) = true) (r0 : (r == 0) = true) (v0 : (v == 0) = false) :
    Calls Try.prog 44 #[.pointer (some ⟨br, 0, none⟩), .agg #[.int .u8 k, .int .i64 r, .int .u32 v, .int .i64 t]] w fun e w' => e = .returned (.bool (rightS ws.length k r v t)) ∧ Below w.heap.size w w' := by
  have hc := h.hc
  have hlt := h.head.lt
  have hne : ¬ br = w.heap.size := by omega
  have hne' : ¬ w.heap.size = br := by omega
  have H := Lib.hid h
  clear h
  have E : Hid (rightS ws.length k r v t = false) := Lib.hid (by simp [rightS, kk1, kk2, kk3, d0, r0, v0])
  go_enter Try.func44, Try.ntmps44
  go_wp2
  go_quiet ((go_at_call 48; exact Calls.quiet_of_same ((len_any ((H.out.words.alloc _).drewN _)).mono fun _ _ ⟨a, b⟩ => ⟨a, b.symm⟩)))
  go_wp2
  go_ret
  rw [E.out]
  exact ⟨rfl, Below.draws ((Below.refl _ _).alloc (Nat.le_refl _) _) _⟩
theorem rr_3d {w : World} {br bk bw : Nat} {ws : List Int} (h : Regs w br bk bw ws) (k r v t : Int) (kk1 : (k == 1) = false) (kk2 : (k == 2) = false) (kk3 : (k == 3) = true) (d0 : decide (0 ≤ r) = true) (r0 : (r == 0) = true) (v0 : (v == 0) = true) (t1 : decide (1 ≤ t) = false) :
    Calls Try.prog 44 #[.pointer (some ⟨br, 0, none⟩), .agg #[.int .u8 k, .int .i64 r, .int .u32 v, .int .i64 t]] w fun e w' => e = .returned (.bool (rightS ws.length k r v t)) ∧ Below w.heap.size w w' := by
  have hc := h.hc
  have hlt := h.head.lt
  have hne : ¬ br = w.heap.size := by omega
  have hne' : ¬ w.heap.size = br := by omega
  have H := Lib.hid h
  clear h
  have E : Hid (rightS ws.length k r v t = false) := Lib.hid (by simp [rightS, kk1, kk2, kk3, d0, r0, v0, t1])
  go_enter Try.func44, Try.ntmps44
  go_wp2
  go_quiet ((go_at_call 48; exact Calls.quiet_of_same ((len_any ((H.out.words.alloc _).drewN _)).mono fun _ _ ⟨a, b⟩ => ⟨a, b.symm⟩)))
  go_wp2
  go_ret
  rw [E.out]
  exact ⟨rfl, Below.draws ((Below.refl _ _).alloc (Nat.le_refl _) _) _⟩
theorem rr_3e {w : World} {br bk bw : Nat} {ws : List Int} (h : Regs w br bk bw ws) (k r v t : Int) (kk1 : (k == 1) = false) (kk2 : (k == 2) = false) (kk3 : (k == 3) = true) (d0 : decide (0 ≤ r) = true) (r0 : (r == 0) = true) (v0 : (v == 0) = true) (t1 : decide (1 ≤ t) = true) :
    Calls Try.prog 44 #[.pointer (some ⟨br, 0, none⟩), .agg #[.int .u8 k, .int .i64 r, .int .u32 v, .int .i64 t]] w fun e w' => e = .returned (.bool (rightS ws.length k r v t)) ∧ Below w.heap.size w w' := by
  have hc := h.hc
  have hlt := h.head.lt
  have hne : ¬ br = w.heap.size := by omega
  have hne' : ¬ w.heap.size = br := by omega
  have H := Lib.hid h
  clear h
  have E : Hid (rightS ws.length k r v t = decide (t ≤ 1024)) := Lib.hid (by simp [rightS, kk1, kk2, kk3, d0, r0, v0, t1])
  go_enter Try.func44, Try.ntmps44
  go_wp2
  go_quiet ((go_at_call 48; exact Calls.quiet_of_same ((len_any ((H.out.words.alloc _).drewN _)).mono fun _ _ ⟨a, b⟩ => ⟨a, b.symm⟩)))
  go_wp2
  go_ret
  rw [E.out]
  exact ⟨rfl, Below.draws ((Below.refl _ _).alloc (Nat.le_refl _) _) _⟩
theorem rright_any {w : World} {br bk bw : Nat} {ws : List Int} (h : Regs w br bk bw ws) (k r v t : Int) :
    Calls Try.prog 44 #[.pointer (some ⟨br, 0, none⟩), .agg #[.int .u8 k, .int .i64 r, .int .u32 v, .int .i64 t]] w fun e w' => e = .returned (.bool (rightS ws.length k r v t)) ∧ Below w.heap.size w w' := by
  cases d0 : decide (0 ≤ r)
  · have r0 : (r == 0) = false := by simp at d0 ⊢; omega
    by_cases h1 : k = 1
    · subst h1; exact rr_1a h 1 r v t rfl rfl rfl d0
    by_cases h2 : k = 2
    · subst h2; exact rr_2a h 2 r v t rfl rfl rfl d0
    by_cases h3 : k = 3
    · subst h3; exact rr_3a h 3 r v t rfl rfl rfl d0 r0
    exact rr_0a h k r v t (by simpa using h1) (by simpa using h2) (by simpa using h3) d0
  · by_cases h1 : k = 1
    · subst h1
      cases d1 : decide (r < (ws.length : Int))
      · exact rr_1b h 1 r v t rfl rfl rfl d0 d1
      · exact rr_1c h 1 r v t rfl rfl rfl d0 d1
    by_cases h2 : k = 2
    · subst h2
      cases d1 : decide (r < (ws.length : Int))
      · exact rr_2b h 2 r v t rfl rfl rfl d0 d1
      · cases v0 : (v == 0)
        · exact rr_2c h 2 r v t rfl rfl rfl d0 d1 v0
        · exact rr_2d h 2 r v t rfl rfl rfl d0 d1 v0
    by_cases h3 : k = 3
    · subst h3
      cases r0 : (r == 0)
      · exact rr_3b h 3 r v t rfl rfl rfl d0 r0
      · cases v0 : (v == 0)
        · exact rr_3c h 3 r v t rfl rfl rfl d0 r0 v0
        · cases t1 : decide (1 ≤ t)
          · exact rr_3d h 3 r v t rfl rfl rfl d0 r0 v0 t1
          · exact rr_3e h 3 r v t rfl rfl rfl d0 r0 v0 t1
    exact rr_0b h k r v t (by simpa using h1) (by simpa using h2) (by simpa using h3) d0
end Go.Proofs.Ytdadgppbpomdoaa
