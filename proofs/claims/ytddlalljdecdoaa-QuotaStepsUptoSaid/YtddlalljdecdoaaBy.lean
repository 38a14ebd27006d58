/- THE DOCUMENT's OWN Step AS ONE CONTRACT, beside the code's. -/
import Derived.Test.YtddlalljdecdoaaBx
namespace Go.Proofs.Ytddlalljdecdoaa
open Go Go.RowKit
set_option maxHeartbeats 800000
/-- the document's record of an operation, but its kind and worker -/
structure DocU where
  at_ : Int
  saw : Int
  hand : Int
  sum : Int
  ended : Bool
  ans : Int
/-- how the document's record stands to ours -/
def InvB (o : OpB) (u : DocU) : Prop :=
  (o.ph = 9 ∧ u.ended = true ∧ u.ans = o.ans) ∨ (o.ph ≠ 9 ∧ u.ended = false ∧ u.ans = 0 ∧
    ((o.k = 1 ∧ u.at_ = (o.ph : Int) ∧ ((o.ph = 1 ∨ o.ph = 3) → u.saw = o.saw) ∧ (o.ph = 4 → u.hand = o.hand + 1 ∧ U64 o.hand)) ∨ (o.k = 2 ∧ u.at_ = (o.ph : Int) ∧ (o.ph = 1 → u.hand = o.hand ∧ u.sum = o.hand)) ∨ (o.k = 3 ∧ u.at_ = (o.c : Int) ∧ u.sum = o.sum)))
def undU (o : OpB) (u : DocU) : List Value := undB o.k o.wk u.at_ u.saw u.hand u.sum u.ended u.ans
def didL (d : Int × Int × Int × Int × Bool) : List Value := [.int .u8 d.1, .int .i64 d.2.1, .int .u64 d.2.2.1, .int .u64 d.2.2.2.1, .bool d.2.2.2.2]
/-- what a step of the document's leaves -/
def DSteppedB (w : World) (ba : Int) (ws : List Int) (o : OpB) (e : Ending) (w' : World) : Prop :=
  ∃ u', InvB (stepB ba ws o) u' ∧ RTook w (stepBW ba ws o) (undU o u') (didL (didB ba ws o)) e w'
section
variable {w : World} {ba : Int} {ws ws' : List Int} {o o' : OpB} {x0 x1 x2 x3 : Int} {x4 : Bool}
theorem dfin (u' : DocU) (hs : stepB ba ws o = o') (hw : stepBW ba ws o = ws') (hd : didB ba ws o = (x0, x1, x2, x3, x4)) (hi : InvB o' u') :
    ∀ e w', RTook w ws' (undU o u') [.int .u8 x0, .int .i64 x1, .int .u64 x2, .int .u64 x3, .bool x4] e w' → DSteppedB w ba ws o e w' := fun e w' hr => ⟨u', by rw [hs]; exact hi, by rw [hw, hd]; exact hr⟩
end
section
variable {w : World} {g q wk n : Nat} {ba : Int} {ws : List Int} {saw hand sum ans s hd sm x : Int}
theorem do_look_some (h : Lies w g ws) (hg : g < w.heap.size) (hl : ws.length ≤ 1000000) (hwk : wk + 1 < ws.length) (hx : ws[wk + 1]? = some x) (hz : 0 < x) : Calls Try.prog 17 #[.int .i64 ba, .slice (some ⟨g, 0, none⟩) ws.length q, .agg #[.int .u8 1, .int .i64 (wk : Int), .int .i64 0, .int .u64 s, .int .u64 hd, .int .u64 sm, .bool false, .int .i64 0]] w (DSteppedB w ba ws ⟨1, wk, 0, saw, hand, n, sum, ans⟩) :=
  (rstep_take h hg rfl (fun _ h1 g1 => rtake_look hx hz hwk h1 g1 hl)).mono (dfin (ba := ba) (ws := ws) (o := ⟨1, wk, 0, saw, hand, n, sum, ans⟩) ⟨1, x, hd, sm, false, 0⟩ (o' := ⟨1, wk, 1, x, hand, n, sum, ans⟩) (by simp [stepB, hx, hz]) (by simp [stepBW, hx, hz]) (by simp [didB, hx, hz]) (by simp [InvB]))
theorem do_look_none (h : Lies w g ws) (hg : g < w.heap.size) (hl : ws.length ≤ 1000000) (hwk : wk + 1 < ws.length) (hx : ws[wk + 1]? = some x) (hz : ¬ 0 < x) : Calls Try.prog 17 #[.int .i64 ba, .slice (some ⟨g, 0, none⟩) ws.length q, .agg #[.int .u8 1, .int .i64 (wk : Int), .int .i64 0, .int .u64 s, .int .u64 hd, .int .u64 sm, .bool false, .int .i64 0]] w (DSteppedB w ba ws ⟨1, wk, 0, saw, hand, n, sum, ans⟩) :=
  (rstep_take h hg rfl (fun _ h1 g1 => rtake_look0 hx hz hwk h1 g1 hl)).mono (dfin (ba := ba) (ws := ws) (o := ⟨1, wk, 0, saw, hand, n, sum, ans⟩) ⟨2, x, hd, sm, false, 0⟩ (o' := ⟨1, wk, 2, saw, hand, n, sum, ans⟩) (by simp [stepB, hx, hz]) (by simp [stepBW, hx, hz]) (by simp [didB, hx, hz]) (by simp [InvB]))
theorem do_spend_hit (h : Lies w g ws) (hg : g < w.heap.size) (hl : ws.length ≤ 1000000) (hwk : wk + 1 < ws.length) (hx : ws[wk + 1]? = some saw) (hz : 0 < saw) (hu : U64 saw) : Calls Try.prog 17 #[.int .i64 ba, .slice (some ⟨g, 0, none⟩) ws.length q, .agg #[.int .u8 1, .int .i64 (wk : Int), .int .i64 1, .int .u64 saw, .int .u64 hd, .int .u64 sm, .bool false, .int .i64 0]] w (DSteppedB w ba ws ⟨1, wk, 1, saw, hand, n, sum, ans⟩) :=
  (rstep_take h hg (by simp) (fun _ h1 g1 => rtake_swap (_x := 0) hx hz hu hwk h1 g1 hl)).mono (dfin (ba := ba) (ws := ws) (o := ⟨1, wk, 1, saw, hand, n, sum, ans⟩) ⟨0, saw, hd, sm, true, 1⟩ (o' := ⟨1, wk, 9, saw, hand, n, sum, 1⟩) (by simp [stepB, hx]) (by simp [stepBW, hx]) (by simp [didB, hx]) (by simp [InvB]))
theorem do_spend_miss (h : Lies w g ws) (hg : g < w.heap.size) (hl : ws.length ≤ 1000000) (hwk : wk + 1 < ws.length) (hx : ws[wk + 1]? = some x) (hz : 0 < saw) (hu : U64 saw) (hne : ¬ x = saw) : Calls Try.prog 17 #[.int .i64 ba, .slice (some ⟨g, 0, none⟩) ws.length q, .agg #[.int .u8 1, .int .i64 (wk : Int), .int .i64 1, .int .u64 saw, .int .u64 hd, .int .u64 sm, .bool false, .int .i64 0]] w (DSteppedB w ba ws ⟨1, wk, 1, saw, hand, n, sum, ans⟩) :=
  (rstep_take h hg rfl (fun _ h1 g1 => rtake_swap_miss hx hz hu (by simpa using hne) hwk h1 g1 hl)).mono (dfin (ba := ba) (ws := ws) (o := ⟨1, wk, 1, saw, hand, n, sum, ans⟩) ⟨0, saw, hd, sm, false, 0⟩ (o' := ⟨1, wk, 0, saw, hand, n, sum, ans⟩) (by simp [stepB, hx, hne]) (by simp [stepBW, hx, hne]) (by simp [didB, hx, hne]) (by simp [InvB]))
theorem do_pool_some (h : Lies w g ws) (hg : g < w.heap.size) (hl : ws.length ≤ 1000000) (hwk : wk + 1 < ws.length) (hx : ws[0]? = some x) (hz : 0 < x) : Calls Try.prog 17 #[.int .i64 ba, .slice (some ⟨g, 0, none⟩) ws.length q, .agg #[.int .u8 1, .int .i64 (wk : Int), .int .i64 2, .int .u64 s, .int .u64 hd, .int .u64 sm, .bool false, .int .i64 0]] w (DSteppedB w ba ws ⟨1, wk, 2, saw, hand, n, sum, ans⟩) :=
  (rstep_take h hg rfl (fun _ h1 g1 => rtake_pool hx (by omega) hwk h1 g1 hl)).mono (dfin (ba := ba) (ws := ws) (o := ⟨1, wk, 2, saw, hand, n, sum, ans⟩) ⟨3, x, hd, sm, false, 0⟩ (o' := ⟨1, wk, 3, x, hand, n, sum, ans⟩) (by simp [stepB, hx, hz]) (by simp [stepBW, hx, hz]) (by simp [didB, hx, hz]) (by simp [InvB]))
theorem do_pool_none (h : Lies w g ws) (hg : g < w.heap.size) (hl : ws.length ≤ 1000000) (hwk : wk + 1 < ws.length) (hx : ws[0]? = some x) (hux : U64 x) (hz : ¬ 0 < x) : Calls Try.prog 17 #[.int .i64 ba, .slice (some ⟨g, 0, none⟩) ws.length q, .agg #[.int .u8 1, .int .i64 (wk : Int), .int .i64 2, .int .u64 s, .int .u64 hd, .int .u64 sm, .bool false, .int .i64 0]] w (DSteppedB w ba ws ⟨1, wk, 2, saw, hand, n, sum, ans⟩) :=
  (rstep_take h hg rfl (fun _ h1 g1 => rtake_pool0 hx (by have := hux.1; omega) hwk h1 g1 hl)).mono (dfin (ba := ba) (ws := ws) (o := ⟨1, wk, 2, saw, hand, n, sum, ans⟩) ⟨3, x, hd, sm, true, 0⟩ (o' := ⟨1, wk, 9, saw, hand, n, sum, 0⟩) (by simp [stepB, hx, hz]) (by simp [stepBW, hx, hz]) (by simp [didB, hx, hz]) (by simp [InvB]))
theorem do_borrow_miss (h : Lies w g ws) (hg : g < w.heap.size) (hl : ws.length ≤ 1000000) (hwk : wk + 1 < ws.length) (hx : ws[0]? = some x) (h0 : 0 < ba) (h1 : ba ≤ 1048576) (hz : 0 < saw) (hu : U64 saw) (hne : ¬ x = saw) : Calls Try.prog 17 #[.int .i64 ba, .slice (some ⟨g, 0, none⟩) ws.length q, .agg #[.int .u8 1, .int .i64 (wk : Int), .int .i64 3, .int .u64 saw, .int .u64 hd, .int .u64 sm, .bool false, .int .i64 0]] w (DSteppedB w ba ws ⟨1, wk, 3, saw, hand, n, sum, ans⟩) := by
  by_cases hlt : saw < ba
  · exact (rstep_take h hg rfl (fun _ h2 g1 => rtake_borrow_lo_miss hx h0 h1 hz hu hlt (by simpa using hne) hwk h2 g1 hl)).mono (dfin (ba := ba) (ws := ws) (o := ⟨1, wk, 3, saw, hand, n, sum, ans⟩) ⟨2, saw, hd, sm, false, 0⟩ (o' := ⟨1, wk, 2, saw, hand, n, sum, ans⟩) (by simp [stepB, hx, hne]) (by simp [stepBW, hx, hne]) (by simp [didB, hx, hne]) (by simp [InvB]))
  · exact (rstep_take h hg rfl (fun _ h2 g1 => rtake_borrow_hi_miss hx h0 h1 hz hu hlt (by simpa using hne) hwk h2 g1 hl)).mono (dfin (ba := ba) (ws := ws) (o := ⟨1, wk, 3, saw, hand, n, sum, ans⟩) ⟨2, saw, hd, sm, false, 0⟩ (o' := ⟨1, wk, 2, saw, hand, n, sum, ans⟩) (by simp [stepB, hx, hne]) (by simp [stepBW, hx, hne]) (by simp [didB, hx, hne]) (by simp [InvB]))
theorem do_borrow_one (h : Lies w g ws) (hg : g < w.heap.size) (hl : ws.length ≤ 1000000) (hwk : wk + 1 < ws.length) (hx : ws[0]? = some saw) (h0 : 0 < ba) (h1 : ba ≤ 1048576) (hz : 0 < saw) (hu : U64 saw) (he : min ba saw = 1) : Calls Try.prog 17 #[.int .i64 ba, .slice (some ⟨g, 0, none⟩) ws.length q, .agg #[.int .u8 1, .int .i64 (wk : Int), .int .i64 3, .int .u64 saw, .int .u64 hd, .int .u64 sm, .bool false, .int .i64 0]] w (DSteppedB w ba ws ⟨1, wk, 3, saw, hand, n, sum, ans⟩) := by
  by_cases hlt : saw < ba
  · obtain rfl : saw = 1 := by omega
    exact (rstep_take h hg (by simp) (fun _ h2 g1 => rtake_borrow_lo_one (_x := 0) (_saw := 0) hx h0 h1 hlt hwk h2 g1 hl)).mono (dfin (ba := ba) (ws := ws) (o := ⟨1, wk, 3, 1, hand, n, sum, ans⟩) ⟨4, 1, 0, sm, true, 1⟩ (o' := ⟨1, wk, 9, 1, hand, n, sum, 1⟩) (by simp [stepB, hx, he]) (by simp [stepBW, hx, he]) (by simp [didB, hx, he]) (by simp [InvB]))
  · obtain rfl : ba = 1 := by omega
    exact (rstep_take h hg (by simp) (fun _ h2 g1 => rtake_borrow_hi_one (_x := 0) (_ba := 0) hx hz hu hlt hwk h2 g1 hl)).mono (dfin (ba := 1) (ws := ws) (o := ⟨1, wk, 3, saw, hand, n, sum, ans⟩) ⟨4, saw, 0, sm, true, 1⟩ (o' := ⟨1, wk, 9, saw, hand, n, sum, 1⟩) (by simp [stepB, hx, he]) (by simp [stepBW, hx, he]) (by simp [didB, hx, he]) (by simp [InvB]))
theorem do_borrow_more (h : Lies w g ws) (hg : g < w.heap.size) (hl : ws.length ≤ 1000000) (hwk : wk + 1 < ws.length) (hx : ws[0]? = some saw) (h0 : 0 < ba) (h1 : ba ≤ 1048576) (hz : 0 < saw) (hu : U64 saw) (he : ¬ min ba saw = 1) : Calls Try.prog 17 #[.int .i64 ba, .slice (some ⟨g, 0, none⟩) ws.length q, .agg #[.int .u8 1, .int .i64 (wk : Int), .int .i64 3, .int .u64 saw, .int .u64 hd, .int .u64 sm, .bool false, .int .i64 0]] w (DSteppedB w ba ws ⟨1, wk, 3, saw, hand, n, sum, ans⟩) := by
  have hh : U64 (min ba saw - 1) := by unfold U64 at hu ⊢; omega
  by_cases hlt : saw < ba
  · have em : min ba saw = saw := by omega
    exact (rstep_take h hg (by simp) (fun _ h2 g1 => rtake_borrow_lo (_x := 0) hx h0 h1 hz hu hlt (by omega) hwk h2 g1 hl)).mono (dfin (ba := ba) (ws := ws) (o := ⟨1, wk, 3, saw, hand, n, sum, ans⟩) ⟨4, saw, saw, sm, false, 0⟩ (o' := ⟨1, wk, 4, saw, min ba saw - 1, n, sum, ans⟩) (by simp [stepB, hx, he]) (by simp [stepBW, hx, em]) (by simp [didB, hx, em]) (by simp [InvB, hh]; omega))
  · have em : min ba saw = ba := by omega
    exact (rstep_take h hg (by simp) (fun _ h2 g1 => rtake_borrow_hi (_x := 0) hx h0 h1 hz hu hlt (by omega) hwk h2 g1 hl)).mono (dfin (ba := ba) (ws := ws) (o := ⟨1, wk, 3, saw, hand, n, sum, ans⟩) ⟨4, saw, ba, sm, false, 0⟩ (o' := ⟨1, wk, 4, saw, min ba saw - 1, n, sum, ans⟩) (by simp [stepB, hx, he]) (by simp [stepBW, hx, em]) (by simp [didB, hx, em]) (by simp [InvB, hh]; omega))
theorem do_hold (h : Lies w g ws) (hg : g < w.heap.size) (hl : ws.length ≤ 1000000) (hwk : wk + 1 < ws.length) (hx : ws[wk + 1]? = some x) (hu : U64 hand) : Calls Try.prog 17 #[.int .i64 ba, .slice (some ⟨g, 0, none⟩) ws.length q, .agg #[.int .u8 1, .int .i64 (wk : Int), .int .i64 4, .int .u64 s, .int .u64 (hand + 1), .int .u64 sm, .bool false, .int .i64 0]] w (DSteppedB w ba ws ⟨1, wk, 4, saw, hand, n, sum, ans⟩) :=
  (rstep_take h hg (by simp) (fun _ h1 g1 => rtake_keep hx hu hwk h1 g1 hl)).mono (dfin (ba := ba) (ws := ws) (o := ⟨1, wk, 4, saw, hand, n, sum, ans⟩) ⟨4, s, 0, sm, true, 1⟩ (o' := ⟨1, wk, 9, saw, hand, n, sum, 1⟩) (by simp [stepB]) (by simp [stepBW, hx]) (by simp [didB, hx]) (by simp [InvB]))
theorem do_empty_some (h : Lies w g ws) (hg : g < w.heap.size) (hl : ws.length ≤ 1000000) (hwk : wk + 1 < ws.length) (hx : ws[wk + 1]? = some x) (hz : 0 < x) : Calls Try.prog 17 #[.int .i64 ba, .slice (some ⟨g, 0, none⟩) ws.length q, .agg #[.int .u8 2, .int .i64 (wk : Int), .int .i64 0, .int .u64 s, .int .u64 hd, .int .u64 sm, .bool false, .int .i64 0]] w (DSteppedB w ba ws ⟨2, wk, 0, saw, hand, n, sum, ans⟩) :=
  (rstep_back hx (by omega) hwk h hg hl).mono (dfin (ba := ba) (ws := ws) (o := ⟨2, wk, 0, saw, hand, n, sum, ans⟩) ⟨1, s, x, x, false, 0⟩ (o' := ⟨2, wk, 1, saw, x, n, sum, ans⟩) (by simp [stepB, hx, hz]) (by simp [stepBW]) (by simp [didB, hx]) (by simp [InvB]))
theorem do_empty_none (h : Lies w g ws) (hg : g < w.heap.size) (hl : ws.length ≤ 1000000) (hwk : wk + 1 < ws.length) (hx : ws[wk + 1]? = some x) (hux : U64 x) (hz : ¬ 0 < x) : Calls Try.prog 17 #[.int .i64 ba, .slice (some ⟨g, 0, none⟩) ws.length q, .agg #[.int .u8 2, .int .i64 (wk : Int), .int .i64 0, .int .u64 s, .int .u64 hd, .int .u64 sm, .bool false, .int .i64 0]] w (DSteppedB w ba ws ⟨2, wk, 0, saw, hand, n, sum, ans⟩) :=
  (rstep_back0 hx (by have := hux.1; omega) hwk h hg hl).mono (dfin (ba := ba) (ws := ws) (o := ⟨2, wk, 0, saw, hand, n, sum, ans⟩) ⟨1, s, x, x, true, 0⟩ (o' := ⟨2, wk, 9, saw, hand, n, sum, 0⟩) (by simp [stepB, hx, hz]) (by simp [stepBW]) (by simp [didB, hx]) (by simp [InvB]))
theorem do_give (h : Lies w g ws) (hg : g < w.heap.size) (hl : ws.length ≤ 1000000) (hwk : wk + 1 < ws.length) (hx : ws[0]? = some x) : Calls Try.prog 17 #[.int .i64 ba, .slice (some ⟨g, 0, none⟩) ws.length q, .agg #[.int .u8 2, .int .i64 (wk : Int), .int .i64 1, .int .u64 s, .int .u64 hand, .int .u64 hand, .bool false, .int .i64 0]] w (DSteppedB w ba ws ⟨2, wk, 1, saw, hand, n, sum, ans⟩) :=
  (rstep_give hx hwk h hg hl).mono (dfin (ba := ba) (ws := ws) (o := ⟨2, wk, 1, saw, hand, n, sum, ans⟩) ⟨1, s, 0, hand, true, IntKind.i64.wrap hand⟩ (o' := ⟨2, wk, 9, saw, hand, n, sum, IntKind.i64.wrap hand⟩) (by simp [stepB]) (by simp [stepBW, hx]) (by simp [didB, hx]) (by simp [InvB]))
theorem do_sum_more (h : Lies w g ws) (hg : g < w.heap.size) (hl : ws.length ≤ 1000000) (hwk : wk + 1 < ws.length) (hx : ws[n]? = some x) (hn : ¬ n + 1 = ws.length) : Calls Try.prog 17 #[.int .i64 ba, .slice (some ⟨g, 0, none⟩) ws.length q, .agg #[.int .u8 3, .int .i64 (wk : Int), .int .i64 (n : Int), .int .u64 s, .int .u64 hd, .int .u64 sum, .bool false, .int .i64 0]] w (DSteppedB w ba ws ⟨3, wk, 0, saw, hand, n, sum, ans⟩) :=
  (rstep_sum hx (by omega) hwk h hg hl).mono (dfin (ba := ba) (ws := ws) (o := ⟨3, wk, 0, saw, hand, n, sum, ans⟩) ⟨((n + 1 : Nat) : Int), s, hd, IntKind.u64.wrap (sum + x), false, 0⟩ (o' := ⟨3, wk, 0, saw, hand, n + 1, IntKind.u64.wrap (sum + x), ans⟩) (by simp [stepB, hx, hn]) (by simp [stepBW]) (by simp [didB, hx]) (by simp [InvB]))
theorem do_sum_last (h : Lies w g ws) (hg : g < w.heap.size) (hl : ws.length ≤ 1000000) (hwk : wk + 1 < ws.length) (hx : ws[n]? = some x) (hn : n + 1 = ws.length) : Calls Try.prog 17 #[.int .i64 ba, .slice (some ⟨g, 0, none⟩) ws.length q, .agg #[.int .u8 3, .int .i64 (wk : Int), .int .i64 (n : Int), .int .u64 s, .int .u64 hd, .int .u64 sum, .bool false, .int .i64 0]] w (DSteppedB w ba ws ⟨3, wk, 0, saw, hand, n, sum, ans⟩) :=
  (rstep_sum_end hx (by omega) hwk h hg hl).mono (dfin (ba := ba) (ws := ws) (o := ⟨3, wk, 0, saw, hand, n, sum, ans⟩) ⟨((n + 1 : Nat) : Int), s, hd, IntKind.u64.wrap (sum + x), true, IntKind.i64.wrap (IntKind.u64.wrap (sum + x))⟩ (o' := ⟨3, wk, 9, saw, hand, n + 1, IntKind.u64.wrap (sum + x), IntKind.i64.wrap (IntKind.u64.wrap (sum + x))⟩) (by simp [stepB, hx, hn]) (by simp [stepBW]) (by simp [didB, hx]) (by simp [InvB]))
end
/-- the document's Step as one contract -/
theorem dstep_op {w : World} {g q : Nat} {ba : Int} {ws : List Int} {o : OpB} {u : DocU} (h : Lies w g ws) (hg : g < w.heap.size) (hl : ws.length ≤ 1000000) (hlo : 2 ≤ ws.length) (hw : ∀ x ∈ ws, U64 x) (h0 : 0 < ba) (h1 : ba ≤ 1048576) (ho : OkB ws.length o) (h9 : ¬ o.ph = 9) (hi : InvB o u) :
    Calls Try.prog 17 #[.int .i64 ba, .slice (some ⟨g, 0, none⟩) ws.length q, .agg (undU o u).toArray] w (DSteppedB w ba ws o) := by
  have get : ∀ i, i < ws.length → ∃ x, ws[i]? = some x ∧ U64 x := fun i hi => ⟨_, List.getElem?_eq_getElem hi, hw _ (List.getElem_mem hi)⟩
  obtain ⟨k, wk, ph, saw, hand, c, sum, ans⟩ := o
  obtain ⟨at_, s, hd, sm, en, an⟩ := u
  dsimp only at h9
  rcases hi with ⟨a, _⟩ | ⟨_, he, ha, hi⟩
  · exact absurd a h9
  try dsimp only at he ha hi
  subst he ha
  rcases ho with ⟨a, b, hh⟩ | ⟨a, b, hh⟩ | ⟨a, b, hh⟩
  · try dsimp only at a b hh
    subst a
    rcases hi with ⟨_, hat, hsw, hhd⟩ | ⟨hk, _⟩ | ⟨hk, _⟩
    · obtain ⟨x, hx, hux⟩ := get _ b
      obtain ⟨y, hy, huy⟩ := get 0 (by omega)
      rcases hh with hh | rfl | ⟨rfl, hz, hu⟩ | rfl | ⟨rfl, hz, hu⟩ | rfl
      · exact absurd hh h9
      · subst hat
        by_cases hz : 0 < x
        · exact do_look_some h hg hl b hx hz
        · exact do_look_none h hg hl b hx hz
      · subst hat
        obtain rfl := hsw (.inl rfl)
        by_cases e : x = s
        · subst e; exact do_spend_hit h hg hl b hx hz hu
        · exact do_spend_miss h hg hl b hx hz hu e
      · subst hat
        by_cases hz : 0 < y
        · exact do_pool_some h hg hl b hy hz
        · exact do_pool_none h hg hl b hy huy hz
      · subst hat
        obtain rfl := hsw (.inr rfl)
        by_cases e : y = s
        · subst e
          by_cases hm : min ba y = 1
          · exact do_borrow_one h hg hl b hy h0 h1 hz hu hm
          · exact do_borrow_more h hg hl b hy h0 h1 hz hu hm
        · exact do_borrow_miss h hg hl b hy h0 h1 hz hu e
      · subst hat
        obtain ⟨rfl, hu⟩ := hhd rfl
        exact do_hold h hg hl b hx hu
    · exact absurd hk (by decide)
    · exact absurd hk (by decide)
  · try dsimp only at a b hh
    subst a
    rcases hi with ⟨hk, _⟩ | ⟨_, hat, hhd⟩ | ⟨hk, _⟩
    · exact absurd hk (by decide)
    · obtain ⟨x, hx, hux⟩ := get _ b
      obtain ⟨y, hy, huy⟩ := get 0 (by omega)
      rcases hh with hh | rfl | rfl
      · exact absurd hh h9
      · subst hat
        by_cases hz : 0 < x
        · exact do_empty_some h hg hl b hx hz
        · exact do_empty_none h hg hl b hx hux hz
      · subst hat
        obtain ⟨rfl, rfl⟩ := hhd rfl
        exact do_give h hg hl b hy
    · exact absurd hk (by decide)
  · try dsimp only at a b hh
    subst a
    rcases hi with ⟨hk, _⟩ | ⟨hk, _⟩ | ⟨_, hat, hsm⟩
    · exact absurd hk (by decide)
    · exact absurd hk (by decide)
    · try dsimp only at hat hsm
      subst hat hsm b
      rcases hh with hh | ⟨rfl, hc⟩
      · exact absurd hh h9
      · obtain ⟨x, hx, _⟩ := get _ hc
        by_cases e : c + 1 = ws.length
        · exact do_sum_last (wk := 0) h hg hl (by omega) hx e
        · exact do_sum_more (wk := 0) h hg hl (by omega) hx e
end Go.Proofs.Ytddlalljdecdoaa
