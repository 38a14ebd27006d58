/- THE WALKS of package quota: New, All, workers, held, Done, Answer, end, act. -/
import Derived.Test.YteoekkhgpdhnhaaDoorCf
import Derived.Test.YteoekkhgpdhnhaaDoorOw
import Derived.StillTailTactics
import Derived.WalkLawsBesides
import Derived.WalkSpells
import Derived.Deep.RegionHeld3
namespace Go.Proofs.YteoekkhgpdhnhaaDoor
open Go Go.RowKit
set_option maxRecDepth 100000

theorem word_store {a : Addr} {x y : Int} {w : World} (hc : w.cell? a = some (.int .u64 x)) (hz : w.frozen? a = false) :
    Calls Tryd.prog 60 #[.pointer (some a), .int .u64 y] w fun e w' => e = .returned (.tuple #[]) ∧ w.setCell a (.int .u64 y) = w' := by
  have hl := run_call_store (P := Tryd.prog) (k := .u64) (y := y) Tryd.func87 (by kernel_rfl) (by kernel_rfl) (by kernel_rfl) (by kernel_rfl) hc hz
  go_enter Tryd.func60, Tryd.ntmps60
  go_wp2
  go_end0
  exact ⟨rfl, rfl⟩
theorem store_any {w : World} {bk bw : Nat} {ws : List Int} (h : Words w bk bw ws) {i : Nat} {x y : Int} (hi : ws[i]? = some x) :
    Calls Tryd.prog 33 #[.pointer (some ⟨bk, 0, none⟩), .int .i64 (i : Int), .int .u64 y] w fun e w' => e = .returned (.tuple #[]) ∧ w.setCell ⟨bw, i, none⟩ (.int .u64 y) = w' := by
  have hc := h.hc
  have hw := h.word hi
  have hz := h.row.free i
  have hl := lt_of_get hi
  have hn := h.few
  go_enter Tryd.func33, Tryd.ntmps33
  go_wp2_with (first
    | (go_at_call 57; refine (has_yes h hl).mono ?_; rintro e w' ⟨rfl, rfl⟩)
    | (go_at_call 60; refine (word_store hw hz).mono ?_; rintro e w' ⟨rfl, rfl⟩))
  go_end0
  exact ⟨rfl, rfl⟩
/-- a quota.Quota at block bq -/
structure QuoM (w : World) (bq bk bw : Nat) (ba : Int) (ws : List Int) : Prop where
  head : Row w bq 92 [.pointer (some ⟨bk, 0, none⟩), .int .u64 ba]
  words : Words w bk bw ws
  least : 2 ≤ ws.length
  top : ws.length ≤ 65
  lowb : 1 ≤ ba
  topb : ba ≤ 1048576
section
variable {w w' : World} {bq bk bw : Nat} {ba : Int} {ws : List Int}
theorem QuoM.hc (h : QuoM w bq bk bw ba ws) : w.cell? ⟨bq, 0, none⟩ = some (.pointer (some ⟨bk, 0, none⟩)) := h.head.cell 0
theorem QuoM.hb (h : QuoM w bq bk bw ba ws) : w.cell? ⟨bq, 1, none⟩ = some (.int .u64 ba) := h.head.cell 1
theorem QuoM.ne (h : QuoM w bq bk bw ba ws) : bq ≠ bw := h.head.ne h.words.row (by decide)
theorem QuoM.part {S : List Nat} (h : QuoM w bq bk bw ba ws) (hp : Part S w w') (h1 : bq ∉ S) (h2 : bk ∉ S) (h3 : bw ∉ S) : QuoM w' bq bk bw ba ws := ⟨h.head.part hp h1, h.words.part hp h2 h3, h.least, h.top, h.lowb, h.topb⟩
/-- behind what turns the words alone -/
theorem QuoM.next {ws' : List Int} (h : QuoM w bq bk bw ba ws) (hp : Part [bw] w w') (hw : Words w' bk bw ws') (hl : ws'.length = ws.length) : QuoM w' bq bk bw ba ws' :=
  ⟨h.head.part hp (by simpa using h.ne), hw, by rw [hl]; exact h.least, by rw [hl]; exact h.top, h.lowb, h.topb⟩
theorem QuoM.below {B : Nat} (h : QuoM w bq bk bw ba ws) (hb : Below B w w') (h1 : bq < B) (h2 : bk < B) (h3 : bw < B) : QuoM w' bq bk bw ba ws := ⟨h.head.below hb h1, h.words.below hb h2 h3, h.least, h.top, h.lowb, h.topb⟩
theorem QuoM.on (h : QuoM w bq bk bw ba ws) (hb : Below w.heap.size w w') : QuoM w' bq bk bw ba ws := h.below hb h.head.lt h.words.head.lt h.words.row.lt
theorem QuoM.drew (h : QuoM w bq bk bw ba ws) : QuoM w.drew bq bk bw ba ws := ⟨h.head, h.words.drew, h.least, h.top, h.lowb, h.topb⟩
theorem Words.drewN {bk bw : Nat} {ws : List Int} (h : Words w bk bw ws) (n : Nat) : Words (w.drewN n) bk bw ws := ⟨h.head, h.row, h.few, h.ok⟩
theorem Words.far (h : Words w bk bw ws) {p : Addr} (h1 : ¬ p.block = bk) (h2 : ¬ p.block = bw) (u : Value) : Words (w.setCell p u) bk bw ws := ⟨h.head.far h1 u, h.row.far h2 u, h.few, h.ok⟩
theorem QuoM.drewN (h : QuoM w bq bk bw ba ws) (n : Nat) : QuoM (w.drewN n) bq bk bw ba ws := ⟨h.head, h.words.drewN n, h.least, h.top, h.lowb, h.topb⟩
theorem QuoM.alloc (h : QuoM w bq bk bw ba ws) (o : Obj) : QuoM (w.alloc o) bq bk bw ba ws := ⟨h.head.alloc o, h.words.alloc o, h.least, h.top, h.lowb, h.topb⟩
theorem Row.drewN {b : Nat} {t : TypeId} {l : List Value} (h : Row w b t l) (n : Nat) : Row (w.drewN n) b t l := h
theorem Row.of_eq {b : Nat} {t : TypeId} {l l' : List Value} (h : Row w b t l) (e : l = l') : Row w b t l' := e ▸ h
theorem Row.at_ {b : Nat} {t : TypeId} {l : List Value} (h : w.heap.size = b) : Row (w.alloc (.cells l.toArray t)) b t l := h ▸ Row.new w t l
theorem Row.two_cells {b : Nat} {t : TypeId} {x0 x1 : Value} (h : Row w b t [x0, x1]) : w.cell? ⟨b, 0, none⟩ = some x0 ∧ w.cell? ⟨b, 1, none⟩ = some x1 := ⟨h.cell 0, h.cell 1⟩
end
/-- the cells of a new quota -/
def startW (limit : Int) (n : Nat) : List Int := limit :: List.replicate n 0
/-- what New leaves -/
def FreshB (w : World) (limit ba : Int) (n : Nat) (e : Ending) (w' : World) : Prop :=
  ∃ bq bk bw, e = .returned (.tuple #[.pointer (some ⟨bq, 0, none⟩), .int .i64 0]) ∧ w.heap.size ≤ bq ∧ w.heap.size ≤ bk ∧ w.heap.size ≤ bw ∧ QuoM w' bq bk bw ba (startW limit n) ∧ Below w.heap.size w w'
def FitsB (limit ba n : Int) : Prop := 0 ≤ limit ∧ limit ≤ 1099511627776 ∧ 1 ≤ ba ∧ ba ≤ 1048576 ∧ 1 ≤ n ∧ n ≤ 64
instance (limit ba n : Int) : Decidable (FitsB limit ba n) := by unfold FitsB; infer_instance
theorem qnew_no {limit ba n : Int} (h : ¬ FitsB limit ba n) (w : World) : Calls Tryd.prog 7 #[.int .i64 limit, .int .i64 ba, .int .i64 n] w fun e w' => e = .returned (.tuple #[.pointer none, .int .i64 2]) ∧ w = w' := by
  have hh : limit < 0 ∨ (0 ≤ limit ∧ 1099511627776 < limit) ∨ (0 ≤ limit ∧ limit ≤ 1099511627776 ∧ (ba < 1 ∨ (1 ≤ ba ∧ 1048576 < ba) ∨ (1 ≤ ba ∧ ba ≤ 1048576 ∧ (n < 1 ∨ (1 ≤ n ∧ 64 < n))))) := by unfold FitsB at h; omega
  clear h
  rcases hh with h | ⟨h, h'⟩ | ⟨h1, h2, h | ⟨h, h'⟩ | ⟨h3, h4, h | ⟨h, h'⟩⟩⟩
  · have d1 : decide (limit < 0) = true := by simpa using h
    clear h
    go_enter Tryd.func7, Tryd.ntmps7
    go_wp2
    go_ret2
    exact ⟨rfl, rfl⟩
  · have d1 : decide (limit < 0) = false := by simp; omega
    have d2 : decide (1099511627776 < limit) = true := by simpa using h'
    clear h h'
    go_enter Tryd.func7, Tryd.ntmps7
    go_wp2
    go_ret2
    exact ⟨rfl, rfl⟩
  · have d1 : decide (limit < 0) = false := by simp; omega
    have d2 : decide (1099511627776 < limit) = false := by simp; omega
    have d3 : decide (ba < 1) = true := by simpa using h
    clear h h1 h2
    go_enter Tryd.func7, Tryd.ntmps7
    go_wp2
    go_ret2
    exact ⟨rfl, rfl⟩
  · have d1 : decide (limit < 0) = false := by simp; omega
    have d2 : decide (1099511627776 < limit) = false := by simp; omega
    have d3 : decide (ba < 1) = false := by simp; omega
    have d4 : decide (1048576 < ba) = true := by simpa using h'
    clear h h' h1 h2
    go_enter Tryd.func7, Tryd.ntmps7
    go_wp2
    go_ret2
    exact ⟨rfl, rfl⟩
  · have d1 : decide (limit < 0) = false := by simp; omega
    have d2 : decide (1099511627776 < limit) = false := by simp; omega
    have d3 : decide (ba < 1) = false := by simp; omega
    have d4 : decide (1048576 < ba) = false := by simp; omega
    have d5 : decide (n < 1) = true := by simpa using h
    clear h h1 h2 h3 h4
    go_enter Tryd.func7, Tryd.ntmps7
    go_wp2
    go_ret2
    exact ⟨rfl, rfl⟩
  · have d1 : decide (limit < 0) = false := by simp; omega
    have d2 : decide (1099511627776 < limit) = false := by simp; omega
    have d3 : decide (ba < 1) = false := by simp; omega
    have d4 : decide (1048576 < ba) = false := by simp; omega
    have d5 : decide (n < 1) = false := by simp; omega
    have d6 : decide (64 < n) = true := by simpa using h'
    clear h h' h1 h2 h3 h4
    go_enter Tryd.func7, Tryd.ntmps7
    go_wp2
    go_ret2
    exact ⟨rfl, rfl⟩
theorem qnew_yes {limit ba : Int} {n : Nat} (h : FitsB limit ba n) (w : World) : Calls Tryd.prog 7 #[.int .i64 limit, .int .i64 ba, .int .i64 (n : Int)] w (FreshB w limit ba n) := by
  obtain ⟨h1, h2, h3, h4, h5, h6⟩ := h
  have d1 : decide (limit < 0) = false := by simp; omega
  have d2 : decide (1099511627776 < limit) = false := by simp; omega
  have d3 : decide (ba < 1) = false := by simp; omega
  have d4 : decide (1048576 < ba) = false := by simp; omega
  have d5 : decide ((n : Int) < 1) = false := by simp; omega
  have d6 : decide (64 < (n : Int)) = false := by simp; omega
  have hl : IntKind.u64.wrap limit = limit := by rw [IntKind.wrap_u64]; omega
  have hb : IntKind.u64.wrap ba = ba := by rw [IntKind.wrap_u64]; omega
  have hn : IntKind.i64.wrap ((n : Int) + 1) = ((n + 1 : Nat) : Int) := by rw [IntKind.wrap_i64]; omega
  have hU : U64 limit := by unfold U64; omega
  have K1 := Lib.hid h1
  have K3 := Lib.hid h3
  have K4 := Lib.hid h4
  have K5 : Hid (1 ≤ n ∧ n ≤ 64) := Lib.hid (by omega)
  have KU := Lib.hid hU
  have hnn : n ≤ 64 := by omega
  clear h1 h2 h3 h4 h5 h6 hU
  go_enter Tryd.func7, Tryd.ntmps7
  go_wp2_with (first
    | (go_at_call 29; (refine (new_yes _ (n := n + 1) (by omega)).mono ?_); rintro e w1 ⟨bk, bw, rfl, hk, hw, hW, hb⟩; have HK := Lib.hid hk; have HW := Lib.hid hw; have HS := Lib.hid hW; have HB := Lib.hid hb; clear hk hw hW hb)
    | (go_at_call 33; (refine (store_any (i := 0) (x := 0) HS.out (by simp)).mono ?_); rintro e w2 ⟨rfl, rfl⟩))
  go_ret2
  have hs := HB.out.size
  have hss := HS.out.set 0 KU.out
  have hw := HW.out
  refine ⟨_, bk, bw, rfl, by simpa using hs, HK.out, HW.out, ⟨Row.at_ (by simp), ?_, by simp [startW]; have := K5.out; omega, by simp [startW]; have := K5.out; omega, K3.out, K4.out⟩, ((HB.out.setCell (by simpa using hw) _).alloc (by simpa using hs) _)⟩
  have he : (List.replicate (n + 1) (0 : Int)).set 0 limit = startW limit n := by simp [startW, List.replicate_succ]
  rw [he] at hss
  exact hss.alloc _
section
variable {w : World} {bq bk bw : Nat} {ba : Int} {ws : List Int}
theorem qall_any (h : QuoM w bq bk bw ba ws) : Calls Tryd.prog 12 #[.pointer (some ⟨bq, 0, none⟩)] w (Copied w ws) := by
  have hc := h.hc
  go_enter Tryd.func12, Tryd.ntmps12
  go_wp2_with (go_at_call 39; refine (all_any h.words).mono ?_; rintro e w' ⟨b, rfl, hb, hr, hw⟩; have HB := Lib.hid hb; have HR := Lib.hid hr; have HW := Lib.hid hw; clear hb hr hw)
  go_ret
  exact ⟨b, rfl, HB.out, HR.out, HW.out⟩
theorem qall_nil (w : World) : Calls Tryd.prog 12 #[.pointer none] w fun e w' => e = .returned (.slice none 0 0) ∧ w = w' := by
  go_enter Tryd.func12, Tryd.ntmps12
  go_wp2
  go_ret
  exact ⟨rfl, rfl⟩
theorem workers_any (h : QuoM w bq bk bw ba ws) : Calls Tryd.prog 61 #[.pointer (some ⟨bq, 0, none⟩)] w fun e w' => e = .returned (.int .i64 ((ws.length : Int) - 1)) ∧ w = w' := by
  have hc := h.hc
  have ht := h.top
  have hl := h.least
  have hw : IntKind.i64.wrap ((ws.length : Int) - 1) = (ws.length : Int) - 1 := by rw [IntKind.wrap_i64]; omega
  have H := Lib.hid h
  clear h
  go_enter Tryd.func61, Tryd.ntmps61
  go_wp2_with (go_at_call 67; refine (len_any H.out.words).mono ?_; rintro e w' ⟨rfl, rfl⟩)
  go_ret
  exact ⟨by simp, rfl⟩
theorem held_any {i : Nat} (hi : i ≤ 64) (w : World) : Calls Tryd.prog 35 #[.int .i64 (i : Int)] w fun e w' => e = .returned (.int .i64 ((i + 1 : Nat) : Int)) ∧ w = w' := by
  have hw : IntKind.i64.wrap ((i : Int) + 1) = ((i + 1 : Nat) : Int) := by rw [IntKind.wrap_i64]; omega
  go_enter Tryd.func35, Tryd.ntmps35
  go_wp2
  go_ret
  exact ⟨by simp, rfl⟩
end
/-- the eight cells of a pending operation -/
def pendB (bq : Nat) (own : Int) (nx : Value) (saw hand ps sum ans : Int) : List Value := [.pointer (some ⟨bq, 0, none⟩), .int .i64 own, nx, .int .u64 saw, .int .u64 hand, .int .i64 ps, .int .u64 sum, .int .i64 ans]
def fnV (f : FuncId) : Value := .func (.func f) #[] #[]
section
variable {w : World} {bp bq : Nat} {own saw hand ps sum ans : Int} {nx : Value}
theorem pend_cells (h : Row w bp 97 (pendB bq own nx saw hand ps sum ans)) :
    w.cell? ⟨bp, 0, none⟩ = some (.pointer (some ⟨bq, 0, none⟩)) ∧ w.cell? ⟨bp, 1, none⟩ = some (.int .i64 own) ∧ w.cell? ⟨bp, 2, none⟩ = some nx ∧ w.cell? ⟨bp, 3, none⟩ = some (.int .u64 saw) ∧
    w.cell? ⟨bp, 4, none⟩ = some (.int .u64 hand) ∧ w.cell? ⟨bp, 5, none⟩ = some (.int .i64 ps) ∧ w.cell? ⟨bp, 6, none⟩ = some (.int .u64 sum) ∧ w.cell? ⟨bp, 7, none⟩ = some (.int .i64 ans) :=
  ⟨h.cell 0, h.cell 1, h.cell 2, h.cell 3, h.cell 4, h.cell 5, h.cell 6, h.cell 7⟩
theorem eql_nil_nil (w : World) : (binOp BinOp.eql 95 Value.nilFunc Value.nilFunc).run Tryd.prog w = .ok (.bool true) w := by kernel_rfl
theorem eql_fn_nil (f : FuncId) (w : World) : (binOp BinOp.eql 95 (.func (.func f) #[] #[]) Value.nilFunc).run Tryd.prog w = .ok (.bool false) w := by kernel_rfl
theorem bdone_no {f : FuncId} (h : Row w bp 97 (pendB bq own (fnV f) saw hand ps sum ans)) :
    Calls Tryd.prog 11 #[.pointer (some ⟨bp, 0, none⟩)] w fun e w' => e = .returned (.bool false) ∧ w = w' := by
  obtain ⟨c0, c1, c2, c3, c4, c5, c6, c7⟩ := pend_cells h
  unfold fnV at c2
  have q1 := eql_nil_nil
  have q3 := eql_fn_nil
  clear h
  go_enter Tryd.func11, Tryd.ntmps11
  go_wp2
  go_ret
  exact ⟨rfl, rfl⟩
theorem bdone_yes (h : Row w bp 97 (pendB bq own .nilFunc saw hand ps sum ans)) :
    Calls Tryd.prog 11 #[.pointer (some ⟨bp, 0, none⟩)] w fun e w' => e = .returned (.bool true) ∧ w = w' := by
  obtain ⟨c0, c1, c2, c3, c4, c5, c6, c7⟩ := pend_cells h
  have q1 := eql_nil_nil
  have q3 := eql_fn_nil
  clear h
  go_enter Tryd.func11, Tryd.ntmps11
  go_wp2
  go_ret
  exact ⟨rfl, rfl⟩
theorem banswer_any (h : Row w bp 97 (pendB bq own nx saw hand ps sum ans)) :
    Calls Tryd.prog 10 #[.pointer (some ⟨bp, 0, none⟩)] w fun e w' => e = .returned (.int .i64 ans) ∧ w = w' := by
  obtain ⟨c0, c1, c2, c3, c4, c5, c6, c7⟩ := pend_cells h
  clear h
  go_enter Tryd.func10, Tryd.ntmps10
  go_wp2
  go_ret
  exact ⟨rfl, rfl⟩
theorem bend_any {y : Int} (h : Row w bp 97 (pendB bq own nx saw hand ps sum ans)) :
    Calls Tryd.prog 66 #[.pointer (some ⟨bp, 0, none⟩), .int .i64 y] w fun e w' => e = .returned (.tuple #[]) ∧ Row w' bp 97 (pendB bq own .nilFunc saw hand ps sum y) ∧ Part [bp] w w' := by
  obtain ⟨c0, c1, c2, c3, c4, c5, c6, c7⟩ := pend_cells h
  have hf := h.free
  have H := Lib.hid h
  clear h
  go_enter Tryd.func66, Tryd.ntmps66
  go_wp2
  go_end0
  exact ⟨rfl, Row.of_eq ((H.out.set 7 _).set 2 _) (by simp [pendB]), ((Part.refl [bp] w).set (by simp) _).set (by simp) _⟩
end
theorem bdone_nil (w : World) : Calls Tryd.prog 11 #[.pointer none] w fun e w' => e = .returned (.bool true) ∧ w = w' := by
  go_enter Tryd.func11, Tryd.ntmps11
  go_wp2
  go_ret
  exact ⟨rfl, rfl⟩
theorem banswer_nil (w : World) : Calls Tryd.prog 10 #[.pointer none] w fun e w' => e = .returned (.int .i64 0) ∧ w = w' := by
  go_enter Tryd.func10, Tryd.ntmps10
  go_wp2
  go_ret
  exact ⟨rfl, rfl⟩
end Go.Proofs.YteoekkhgpdhnhaaDoor
