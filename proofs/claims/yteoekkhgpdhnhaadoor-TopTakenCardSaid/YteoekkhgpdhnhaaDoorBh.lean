/- THE WALKS of package quota: right, Start; an operation alone; do, Take, Back, Left. -/
import Derived.Test.YteoekkhgpdhnhaaDoorBg
namespace Go.Proofs.YteoekkhgpdhnhaaDoor
open Go Go.RowKit
set_option maxHeartbeats 1600000
set_option maxRecDepth 100000

theorem Below.draws {w0 w : World} {B : Nat} (h : Below B w0 w) (n : Nat) : Below B w0 (w.drewN n) := ⟨h.os, h.tape, h.output, h.size, h.block⟩
theorem workers_n {w : World} {bq bk bw n : Nat} {ba : Int} {ws : List Int} (h : QuoM w bq bk bw ba ws) (hn : ws.length = n + 1) : Calls Tryd.prog 61 #[.pointer (some ⟨bq, 0, none⟩)] w fun e w' => e = .returned (.int .i64 (n : Int)) ∧ w = w' := by
  have := workers_any h
  rwa [show (ws.length : Int) - 1 = (n : Int) by omega] at this
/-- is an operation right, of so many workers -/
def rightB (n : Nat) (k i : Int) : Bool := ((k == 1 || k == 2) && (decide (0 ≤ i) && decide (i < (n : Int)))) || (k == 3 && i == 0)
theorem rb_1a {w : World} {bq bk bw n : Nat} {ba : Int} {ws : List Int} (h : QuoM w bq bk bw ba ws) (hn : ws.length = n + 1) (k i : Int) (kk1 : (k == 1) = true) (kk2 : (k == 2) = false) (kk3 : (k == 3) = false) (d0 : decide (0 ≤ i) = false) :
    Calls Tryd.prog 34 #[.pointer (some ⟨bq, 0, none⟩), .agg #[.int .u8 k, .int .i64 i]] w fun e w' => e = .returned (.bool (rightB n k i)) ∧ Below w.heap.size w w' := by
  have hc := h.hc
  have hlt := h.head.lt
  have hne : ¬ bq = w.heap.size := by omega
  have hne' : ¬ w.heap.size = bq := by omega
  have H := Lib.hid h
  have HN := Lib.hid hn
  clear h hn
  have E : Hid (rightB n k i = false) := Lib.hid (by simp [rightB, kk1, kk2, kk3, d0])
  go_enter Tryd.func34, Tryd.ntmps34
  go_wp2
  go_quiet ((go_at_call 61; exact Calls.quiet_of_same ((workers_n ((H.out.alloc _).drewN _) HN.out).mono fun _ _ ⟨a, b⟩ => ⟨a, b.symm⟩)))
  go_wp2
  go_ret
  rw [E.out]
  exact ⟨rfl, Below.draws ((Below.refl _ _).alloc (Nat.le_refl _) _) _⟩
theorem rb_1b {w : World} {bq bk bw n : Nat} {ba : Int} {ws : List Int} (h : QuoM w bq bk bw ba ws) (hn : ws.length = n + 1) (k i : Int) (kk1 : (k == 1) = true) (kk2 : (k == 2) = false) (kk3 : (k == 3) = false) (d0 : decide (0 ≤ i) = true) (d1 : decide (i < (n : Int)) = false) :
    Calls Tryd.prog 34 #[.pointer (some ⟨bq, 0, none⟩), .agg #[.int .u8 k, .int .i64 i]] w fun e w' => e = .returned (.bool (rightB n k i)) ∧ Below w.heap.size w w' := by
  have hc := h.hc
  have hlt := h.head.lt
  have hne : ¬ bq = w.heap.size := by omega
  have hne' : ¬ w.heap.size = bq := by omega
  have H := Lib.hid h
  have HN := Lib.hid hn
  clear h hn
  have E : Hid (rightB n k i = false) := Lib.hid (by simp [rightB, kk1, kk2, kk3, d0, d1])
  go_enter Tryd.func34, Tryd.ntmps34
  go_wp2
  go_quiet ((go_at_call 61; exact Calls.quiet_of_same ((workers_n ((H.out.alloc _).drewN _) HN.out).mono fun _ _ ⟨a, b⟩ => ⟨a, b.symm⟩)))
  go_wp2
  go_ret
  rw [E.out]
  exact ⟨rfl, Below.draws ((Below.refl _ _).alloc (Nat.le_refl _) _) _⟩
theorem rb_1c {w : World} {bq bk bw n : Nat} {ba : Int} {ws : List Int} (h : QuoM w bq bk bw ba ws) (hn : ws.length = n + 1) (k i : Int) (kk1 : (k == 1) = true) (kk2 : (k == 2) = false) (kk3 : (k == 3) = false) (d0 : decide (0 ≤ i) = true) (d1 : decide (i < (n : Int)) = true) :
    Calls Tryd.prog 34 #[.pointer (some ⟨bq, 0, none⟩), .agg #[.int .u8 k, .int .i64 i]] w fun e w' => e = .returned (.bool (rightB n k i)) ∧ Below w.heap.size w w' := by
  have hc := h.hc
  have hlt := h.head.lt
  have hne : ¬ bq = w.heap.size := by omega
  have hne' : ¬ w.heap.size = bq := by omega
  have H := Lib.hid h
  have HN := Lib.hid hn
  clear h hn
  have E : Hid (rightB n k i = true) := Lib.hid (by simp [rightB, kk1, kk2, kk3, d0, d1])
  go_enter Tryd.func34, Tryd.ntmps34
  go_wp2
  go_quiet ((go_at_call 61; exact Calls.quiet_of_same ((workers_n ((H.out.alloc _).drewN _) HN.out).mono fun _ _ ⟨a, b⟩ => ⟨a, b.symm⟩)))
  go_wp2
  go_ret
  rw [E.out]
  exact ⟨rfl, Below.draws ((Below.refl _ _).alloc (Nat.le_refl _) _) _⟩
theorem rb_2a {w : World} {bq bk bw n : Nat} {ba : Int} {ws : List Int} (h : QuoM w bq bk bw ba ws) (hn : ws.length = n + 1) (k i : Int) (kk1 : (k == 1) = false) (kk2 : (k == 2) = true) (kk3 : (k == 3) = false) (d0 : decide (0 ≤ i) = false) :
    Calls Tryd.prog 34 #[.pointer (some ⟨bq, 0, none⟩), .agg #[.int .u8 k, .int .i64 i]] w fun e w' => e = .returned (.bool (rightB n k i)) ∧ Below w.heap.size w w' := by
  have hc := h.hc
  have hlt := h.head.lt
  have hne : ¬ bq = w.heap.size := by omega
  have hne' : ¬ w.heap.size = bq := by omega
  have H := Lib.hid h
  have HN := Lib.hid hn
  clear h hn
  have E : Hid (rightB n k i = false) := Lib.hid (by simp [rightB, kk1, kk2, kk3, d0])
  go_enter Tryd.func34, Tryd.ntmps34
  go_wp2
  go_quiet ((go_at_call 61; exact Calls.quiet_of_same ((workers_n ((H.out.alloc _).drewN _) HN.out).mono fun _ _ ⟨a, b⟩ => ⟨a, b.symm⟩)))
  go_wp2
  go_ret
  rw [E.out]
  exact ⟨rfl, Below.draws ((Below.refl _ _).alloc (Nat.le_refl _) _) _⟩
theorem rb_2b {w : World} {bq bk bw n : Nat} {ba : Int} {ws : List Int} (h : QuoM w bq bk bw ba ws) (hn : ws.length = n + 1) (k i : Int) (kk1 : (k == 1) = false) (kk2 : (k == 2) = true) (kk3 : (k == 3) = false) (d0 : decide (0 ≤ i) = true) (d1 : decide (i < (n : Int)) = false) :
    Calls Tryd.prog 34 #[.pointer (some ⟨bq, 0, none⟩), .agg #[.int .u8 k, .int .i64 i]] w fun e w' => e = .returned (.bool (rightB n k i)) ∧ Below w.heap.size w w' := by
  have hc := h.hc
  have hlt := h.head.lt
  have hne : ¬ bq = w.heap.size := by omega
  have hne' : ¬ w.heap.size = bq := by omega
  have H := Lib.hid h
  have HN := Lib.hid hn
  clear h hn
  have E : Hid (rightB n k i = false) := Lib.hid (by simp [rightB, kk1, kk2, kk3, d0, d1])
  go_enter Tryd.func34, Tryd.ntmps34
  go_wp2
  go_quiet ((go_at_call 61; exact Calls.quiet_of_same ((workers_n ((H.out.alloc _).drewN _) HN.out).mono fun _ _ ⟨a, b⟩ => ⟨a, b.symm⟩)))
  go_wp2
  go_ret
  rw [E.out]
  exact ⟨rfl, Below.draws ((Below.refl _ _).alloc (Nat.le_refl _) _) _⟩
theorem rb_2c {w : World} {bq bk bw n : Nat} {ba : Int} {ws : List Int} (h : QuoM w bq bk bw ba ws) (hn : ws.length = n + 1) (k i : Int) (kk1 : (k == 1) = false) (kk2 : (k == 2) = true) (kk3 : (k == 3) = false) (d0 : decide (0 ≤ i) = true) (d1 : decide (i < (n : Int)) = true) :
    Calls Tryd.prog 34 #[.pointer (some ⟨bq, 0, none⟩), .agg #[.int .u8 k, .int .i64 i]] w fun e w' => e = .returned (.bool (rightB n k i)) ∧ Below w.heap.size w w' := by
  have hc := h.hc
  have hlt := h.head.lt
  have hne : ¬ bq = w.heap.size := by omega
  have hne' : ¬ w.heap.size = bq := by omega
  have H := Lib.hid h
  have HN := Lib.hid hn
  clear h hn
  have E : Hid (rightB n k i = true) := Lib.hid (by simp [rightB, kk1, kk2, kk3, d0, d1])
  go_enter Tryd.func34, Tryd.ntmps34
  go_wp2
  go_quiet ((go_at_call 61; exact Calls.quiet_of_same ((workers_n ((H.out.alloc _).drewN _) HN.out).mono fun _ _ ⟨a, b⟩ => ⟨a, b.symm⟩)))
  go_wp2
  go_ret
  rw [E.out]
  exact ⟨rfl, Below.draws ((Below.refl _ _).alloc (Nat.le_refl _) _) _⟩
theorem rb_3 {w : World} {bq bk bw n : Nat} {ba : Int} {ws : List Int} (h : QuoM w bq bk bw ba ws) (hn : ws.length = n + 1) (k i : Int) (kk1 : (k == 1) = false) (kk2 : (k == 2) = false) (kk3 : (k == 3) = true) :
    Calls Tryd.prog 34 #[.pointer (some ⟨bq, 0, none⟩), .agg #[.int .u8 k, .int .i64 i]] w fun e w' => e = .returned (.bool (rightB n k i)) ∧ Below w.heap.size w w' := by
  have hc := h.hc
  have hlt := h.head.lt
  have hne : ¬ bq = w.heap.size := by omega
  have hne' : ¬ w.heap.size = bq := by omega
  have H := Lib.hid h
  have HN := Lib.hid hn
  clear h hn
  have E : Hid (rightB n k i = (i == 0)) := Lib.hid (by simp [rightB, kk1, kk2, kk3])
  go_enter Tryd.func34, Tryd.ntmps34
  go_wp2
  go_ret
  rw [E.out]
  exact ⟨rfl, (Below.refl _ _).alloc (Nat.le_refl _) _⟩
theorem rb_0 {w : World} {bq bk bw n : Nat} {ba : Int} {ws : List Int} (h : QuoM w bq bk bw ba ws) (hn : ws.length = n + 1) (k i : Int) (kk1 : (k == 1) = false) (kk2 : (k == 2) = false) (kk3 : (k == 3) = false) :
    Calls Tryd.prog 34 #[.pointer (some ⟨bq, 0, none⟩), .agg #[.int .u8 k, .int .i64 i]] w fun e w' => e = .returned (.bool (rightB n k i)) ∧ Below w.heap.size w w' := by
  have hc := h.hc
  have hlt := h.head.lt
  have hne : ¬ bq = w.heap.size := by omega
  have hne' : ¬ w.heap.size = bq := by omega
  have H := Lib.hid h
  have HN := Lib.hid hn
  clear h hn
  have E : Hid (rightB n k i = false) := Lib.hid (by simp [rightB, kk1, kk2, kk3])
  go_enter Tryd.func34, Tryd.ntmps34
  go_wp2
  go_ret
  rw [E.out]
  exact ⟨rfl, (Below.refl _ _).alloc (Nat.le_refl _) _⟩
theorem bright_any {w : World} {bq bk bw n : Nat} {ba : Int} {ws : List Int} (h : QuoM w bq bk bw ba ws) (hn : ws.length = n + 1) (k i : Int) :
    Calls Tryd.prog 34 #[.pointer (some ⟨bq, 0, none⟩), .agg #[.int .u8 k, .int .i64 i]] w fun e w' => e = .returned (.bool (rightB n k i)) ∧ Below w.heap.size w w' := by
  by_cases k1 : k = 1
  · subst k1
    by_cases d0 : 0 ≤ i
    · by_cases d1 : i < (n : Int)
      · exact rb_1c h hn 1 i rfl rfl rfl (by simpa using d0) (by simpa using d1)
      · exact rb_1b h hn 1 i rfl rfl rfl (by simpa using d0) (by simpa using d1)
    · exact rb_1a h hn 1 i rfl rfl rfl (by simpa using d0)
  by_cases k2 : k = 2
  · subst k2
    by_cases d0 : 0 ≤ i
    · by_cases d1 : i < (n : Int)
      · exact rb_2c h hn 2 i rfl rfl rfl (by simpa using d0) (by simpa using d1)
      · exact rb_2b h hn 2 i rfl rfl rfl (by simpa using d0) (by simpa using d1)
    · exact rb_2a h hn 2 i rfl rfl rfl (by simpa using d0)
  by_cases k3 : k = 3
  · subst k3; exact rb_3 h hn 3 i rfl rfl rfl
  · exact rb_0 h hn k i (by simpa using k1) (by simpa using k2) (by simpa using k3)
theorem right_cases {n : Nat} {k i : Int} (h : rightB n k i = true) : ∃ wk : Nat, i = (wk : Int) ∧ ((k = 1 ∧ wk < n) ∨ (k = 2 ∧ wk < n) ∨ (k = 3 ∧ wk = 0)) := by
  simp [rightB] at h
  rcases h with ⟨h1, h2, h3⟩ | ⟨h1, h2⟩
  · refine ⟨i.toNat, by omega, ?_⟩
    rcases h1 with h1 | h1
    · exact .inl ⟨h1, by omega⟩
    · exact .inr (.inl ⟨h1, by omega⟩)
  · exact ⟨0, by simpa using h2, .inr (.inr ⟨h1, rfl⟩)⟩
theorem OkB.new {n wk : Nat} {k : Int} (h : (k = 1 ∧ wk < n) ∨ (k = 2 ∧ wk < n) ∨ (k = 3 ∧ wk = 0)) : OkB (n + 1) (newB k wk) := by
  rcases h with ⟨rfl, h⟩ | ⟨rfl, h⟩ | ⟨rfl, h⟩
  · exact .inl ⟨rfl, by simp [newB]; omega, .inr (.inl rfl)⟩
  · exact .inr (.inl ⟨rfl, by simp [newB]; omega, .inr (.inl rfl)⟩)
  · exact .inr (.inr ⟨rfl, h, .inr ⟨rfl, by simp [newB]⟩⟩)
/-- what Start leaves, of an operation that is right: an operation of its own -/
def BegunB (w : World) (bq : Nat) (o : OpB) (e : Ending) (w' : World) : Prop :=
  ∃ bp, e = .returned (.tuple #[.pointer (some ⟨bp, 0, none⟩), .int .i64 0]) ∧ w.heap.size ≤ bp ∧ Row w' bp 97 (rowB bq o) ∧ Below w.heap.size w w'
theorem bstart_nil {w : World} {k i : Int} : Calls Tryd.prog 8 #[.pointer none, .agg #[.int .u8 k, .int .i64 i]] w fun e w' => e = .returned (.tuple #[.pointer none, .int .i64 1]) ∧ Below w.heap.size w w' := by
  go_enter Tryd.func8, Tryd.ntmps8
  go_wp2
  go_ret2
  exact ⟨rfl, (Below.refl _ _).alloc (Nat.le_refl _) _⟩
theorem bstart_no {w : World} {bq bk bw n : Nat} {ba : Int} {ws : List Int} (h : QuoM w bq bk bw ba ws) (hn : ws.length = n + 1) {k i : Int} (hr : rightB n k i = false) :
    Calls Tryd.prog 8 #[.pointer (some ⟨bq, 0, none⟩), .agg #[.int .u8 k, .int .i64 i]] w fun e w' => e = .returned (.tuple #[.pointer none, .int .i64 2]) ∧ Below w.heap.size w w' := by
  have H := Lib.hid h
  have HN := Lib.hid hn
  have HR := Lib.hid hr
  clear h hn hr
  go_enter Tryd.func8, Tryd.ntmps8
  go_wp2_with (go_at_call 34; refine (bright_any (H.out.alloc _) HN.out _ _).mono ?_; rw [HR.out]; rintro e w1 ⟨rfl, hb⟩; have HB := Lib.hid hb; clear hb)
  go_ret2
  exact ⟨rfl, (((Below.refl _ _).alloc (Nat.le_refl _) _).trans (HB.out.mono (by simp)))⟩
theorem bstart_1 {w : World} {bq bk bw n : Nat} {ba : Int} {ws : List Int} (h : QuoM w bq bk bw ba ws) (hn : ws.length = n + 1) {wk : Nat} (hw : wk < n) :
    Calls Tryd.prog 8 #[.pointer (some ⟨bq, 0, none⟩), .agg #[.int .u8 1, .int .i64 (wk : Int)]] w (BegunB w bq (newB 1 wk)) := by
  have ht := h.top
  have HW : wk ≤ 64 := by omega
  have H := Lib.hid h
  have HN := Lib.hid hn
  have HR : Hid (rightB n 1 (wk : Int) = true) := Lib.hid (by simp [rightB]; omega)
  clear h hn hw ht
  go_enter Tryd.func8, Tryd.ntmps8
  go_wp2_with (first
    | (go_at_call 34; refine (bright_any (H.out.alloc _) HN.out _ _).mono ?_; rw [HR.out]; rintro e w1 ⟨rfl, hb⟩; have HB := Lib.hid hb; have hop : Row w1 w.heap.size 35 [.int .u8 1, .int .i64 (wk : Int)] := (Row.new w _ _).below hb (by simp); have o0 : w1.cell? ⟨w.heap.size, 0, none⟩ = some (.int .u8 1) := hop.cell 0; have o1 : w1.cell? ⟨w.heap.size, 1, none⟩ = some (.int .i64 (wk : Int)) := hop.cell 1; have hw1 : w.heap.size < w1.heap.size := hop.lt; clear hop; clear hb)
    | (go_at_call 35; (refine (held_any HW _).mono ?_); rintro e wx ⟨rfl, rfl⟩))
  go_ret2
  have hz := HB.out.size
  refine ⟨w1.heap.size, rfl, by simp at hz; omega, Row.of_eq (Row.new w1 _ [_, _, _, _, _, _, _, _]) (by simp [rowB, pendB, newB, nxB, fnV]), ?_⟩
  have hb := ((Below.refl w.heap.size w).alloc (Nat.le_refl _) _).trans (HB.out.mono (by simp))
  exact hb.alloc hb.size _
theorem bstart_2 {w : World} {bq bk bw n : Nat} {ba : Int} {ws : List Int} (h : QuoM w bq bk bw ba ws) (hn : ws.length = n + 1) {wk : Nat} (hw : wk < n) :
    Calls Tryd.prog 8 #[.pointer (some ⟨bq, 0, none⟩), .agg #[.int .u8 2, .int .i64 (wk : Int)]] w (BegunB w bq (newB 2 wk)) := by
  have ht := h.top
  have HW : wk ≤ 64 := by omega
  have H := Lib.hid h
  have HN := Lib.hid hn
  have HR : Hid (rightB n 2 (wk : Int) = true) := Lib.hid (by simp [rightB]; omega)
  clear h hn hw ht
  go_enter Tryd.func8, Tryd.ntmps8
  go_wp2_with (first
    | (go_at_call 34; refine (bright_any (H.out.alloc _) HN.out _ _).mono ?_; rw [HR.out]; rintro e w1 ⟨rfl, hb⟩; have HB := Lib.hid hb; have hop : Row w1 w.heap.size 35 [.int .u8 2, .int .i64 (wk : Int)] := (Row.new w _ _).below hb (by simp); have o0 : w1.cell? ⟨w.heap.size, 0, none⟩ = some (.int .u8 2) := hop.cell 0; have o1 : w1.cell? ⟨w.heap.size, 1, none⟩ = some (.int .i64 (wk : Int)) := hop.cell 1; have hw1 : w.heap.size < w1.heap.size := hop.lt; clear hop; clear hb)
    | (go_at_call 35; (refine (held_any HW _).mono ?_); rintro e wx ⟨rfl, rfl⟩))
  go_ret2
  have hz := HB.out.size
  refine ⟨w1.heap.size, rfl, by simp at hz; omega, Row.of_eq (Row.new w1 _ [_, _, _, _, _, _, _, _]) (by simp [rowB, pendB, newB, nxB, fnV]), ?_⟩
  have hb := ((Below.refl w.heap.size w).alloc (Nat.le_refl _) _).trans (HB.out.mono (by simp))
  exact hb.alloc hb.size _
theorem bstart_3 {w : World} {bq bk bw n : Nat} {ba : Int} {ws : List Int} (h : QuoM w bq bk bw ba ws) (hn : ws.length = n + 1) :
    Calls Tryd.prog 8 #[.pointer (some ⟨bq, 0, none⟩), .agg #[.int .u8 3, .int .i64 0]] w (BegunB w bq (newB 3 0)) := by
  have ht := h.top
  have HW : (0 : Nat) ≤ 64 := by omega
  have H := Lib.hid h
  have HN := Lib.hid hn
  have HR : Hid (rightB n 3 0 = true) := Lib.hid (by simp [rightB])
  clear h hn ht
  go_enter Tryd.func8, Tryd.ntmps8
  go_wp2_with (first
    | (go_at_call 34; refine (bright_any (H.out.alloc _) HN.out _ _).mono ?_; rw [HR.out]; rintro e w1 ⟨rfl, hb⟩; have HB := Lib.hid hb; have hop : Row w1 w.heap.size 35 [.int .u8 3, .int .i64 0] := (Row.new w _ _).below hb (by simp); have o0 : w1.cell? ⟨w.heap.size, 0, none⟩ = some (.int .u8 3) := hop.cell 0; have o1 : w1.cell? ⟨w.heap.size, 1, none⟩ = some (.int .i64 0) := hop.cell 1; have hw1 : w.heap.size < w1.heap.size := hop.lt; clear hop; clear hb)
    | (go_at_call 35; (refine (held_any (i := 0) HW _).mono ?_); rintro e wx ⟨rfl, rfl⟩))
  go_ret2
  have hz := HB.out.size
  refine ⟨w1.heap.size, rfl, by simp at hz; omega, Row.of_eq (Row.new w1 _ [_, _, _, _, _, _, _, _]) (by simp [rowB, pendB, newB, nxB, fnV]), ?_⟩
  have hb := ((Below.refl w.heap.size w).alloc (Nat.le_refl _) _).trans (HB.out.mono (by simp))
  exact hb.alloc hb.size _
theorem bstart_op {w : World} {bq bk bw n : Nat} {ba : Int} {ws : List Int} (h : QuoM w bq bk bw ba ws) (hn : ws.length = n + 1) {k : Int} {wk : Nat} (hr : (k = 1 ∧ wk < n) ∨ (k = 2 ∧ wk < n) ∨ (k = 3 ∧ wk = 0)) :
    Calls Tryd.prog 8 #[.pointer (some ⟨bq, 0, none⟩), .agg #[.int .u8 k, .int .i64 (wk : Int)]] w (BegunB w bq (newB k wk)) := by
  rcases hr with ⟨rfl, hw⟩ | ⟨rfl, hw⟩ | ⟨rfl, rfl⟩
  · exact bstart_1 h hn hw
  · exact bstart_2 h hn hw
  · exact bstart_3 h hn
end Go.Proofs.YteoekkhgpdhnhaaDoor
