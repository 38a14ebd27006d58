/- WHAT TAKES AND BACKS LEAVE, ONE AFTER ANOTHER. THE WALK of the law 'QuotaSpent'. -/
import Derived.Test.YteoekkhgpdhnhaaDoorBn
import Derived.Deep.LoopGhost
namespace Go.Proofs.YteoekkhgpdhnhaaDoor
open Go Go.RowKit
set_option maxRecDepth 100000
set_option maxHeartbeats 1600000
theorem wholeB_of {ba : Int} {ws : List Int} {k : Int} {wk m : Nat} (hm : m ≤ ws.length + 5) (h : (runB ba m (ws, newB k wk)).2.ph = 9) : wholeB ba ws k wk = runB ba m (ws, newB k wk) := runB_past h hm
/-- a whole take -/
theorem take_whole {ba : Int} {ws : List Int} {wk : Nat} {x y : Int} (hx : ws[wk + 1]? = some x) (hy : ws[0]? = some y) (hx0 : 0 ≤ x) (hy0 : 0 ≤ y) (hyu : U64 y) (hb : 1 ≤ ba) (hbt : ba ≤ 1048576) :
    (0 < x ∧ (wholeB ba ws 1 wk).1 = ws.set (wk + 1) (x - 1) ∧ ansB ba ws 1 wk = 1) ∨ (x = 0 ∧ y = 0 ∧ (wholeB ba ws 1 wk).1 = ws ∧ ansB ba ws 1 wk = 0)
    ∨ (x = 0 ∧ 0 < y ∧ (wholeB ba ws 1 wk).1 = (ws.set 0 (y - min ba y)).set (wk + 1) (min ba y - 1) ∧ ansB ba ws 1 wk = 1) := by
  have hl : wk + 1 < ws.length := lt_of_get hx
  by_cases h1 : 0 < x
  · left
    have e : runB ba 2 (ws, newB 1 wk) = (ws.set (wk + 1) (x - 1), ⟨1, wk, 9, x, 0, 0, 0, 1⟩) := by simp [runB, newB, stepB, stepBW, hx, h1]
    have hw := wholeB_of (ba := ba) (ws := ws) (k := 1) (wk := wk) (m := 2) (by omega) (by rw [e])
    exact ⟨h1, by rw [hw, e], by unfold ansB; rw [hw, e]⟩
  have hx00 : x = 0 := by omega
  subst hx00
  by_cases h2 : 0 < y
  · right; right
    by_cases h3 : min ba y = 1
    · have e : runB ba 3 (ws, newB 1 wk) = (ws.set 0 (y - min ba y), ⟨1, wk, 9, y, 0, 0, 0, 1⟩) := by simp [runB, newB, stepB, stepBW, hx, hy, h2, h3]
      have hw := wholeB_of (ba := ba) (ws := ws) (k := 1) (wk := wk) (m := 3) (by omega) (by rw [e])
      refine ⟨rfl, h2, ?_, by unfold ansB; rw [hw, e]⟩
      rw [hw, e, h3]
      have : (ws.set 0 (y - 1))[wk + 1]? = some 0 := by rw [List.getElem?_set_ne (by omega)]; exact hx
      dsimp only
      rw [show (1 : Int) - 1 = 0 by omega]
      apply List.ext_getElem?
      intro i
      by_cases hi : wk + 1 = i
      · subst hi; rw [List.getElem?_set_self (by rw [List.length_set]; exact hl), this]
      · rw [List.getElem?_set_ne hi]
    · have hwr : IntKind.u64.wrap (0 + (min ba y - 1)) = min ba y - 1 := by unfold U64 at hyu; rw [IntKind.wrap_u64]; omega
      have h0 : (ws.set 0 (y - min ba y))[wk + 1]? = some 0 := by rw [List.getElem?_set_ne (by omega)]; exact hx
      have e3 : runB ba 3 (ws, newB 1 wk) = (ws.set 0 (y - min ba y), ⟨1, wk, 4, y, min ba y - 1, 0, 0, 0⟩) := by simp [runB, newB, stepB, stepBW, hx, hy, h2, h3]
      have e : runB ba 4 (ws, newB 1 wk) = ((ws.set 0 (y - min ba y)).set (wk + 1) (min ba y - 1), ⟨1, wk, 9, y, min ba y - 1, 0, 0, 1⟩) := by
        rw [runB_next, e3]
        dsimp only
        rw [show stepBW ba (ws.set 0 (y - min ba y)) ⟨1, wk, 4, y, min ba y - 1, 0, 0, 0⟩ = (ws.set 0 (y - min ba y)).set (wk + 1) (min ba y - 1) by unfold stepBW; rw [if_neg (by simp), if_pos rfl, if_neg (by simp), if_neg (by simp), if_pos rfl, getD_of h0, hwr]]
        simp [stepB]
      have hw := wholeB_of (ba := ba) (ws := ws) (k := 1) (wk := wk) (m := 4) (by omega) (by rw [e])
      exact ⟨rfl, h2, by rw [hw, e], by unfold ansB; rw [hw, e]⟩
  · right; left
    have hy00 : y = 0 := by omega
    subst hy00
    have e : runB ba 2 (ws, newB 1 wk) = (ws, ⟨1, wk, 9, 0, 0, 0, 0, 0⟩) := by simp [runB, newB, stepB, stepBW, hx, hy]
    have hw := wholeB_of (ba := ba) (ws := ws) (k := 1) (wk := wk) (m := 2) (by omega) (by rw [e])
    exact ⟨rfl, rfl, by rw [hw, e], by unfold ansB; rw [hw, e]⟩
/-- a whole giving back -/
theorem back_whole {ba : Int} {ws : List Int} {wk : Nat} {x y : Int} (hx : ws[wk + 1]? = some x) (hy : ws[0]? = some y) (hx0 : 0 ≤ x) (hs : U64 (y + x)) :
    (wholeB ba ws 2 wk).1 = (ws.set (wk + 1) 0).set 0 (y + x) := by
  have hl : wk + 1 < ws.length := lt_of_get hx
  have h0 : (ws.set (wk + 1) 0)[0]? = some y := by rw [List.getElem?_set_ne (by omega)]; exact hy
  by_cases h1 : 0 < x
  · have e : runB ba 2 (ws, newB 2 wk) = ((ws.set (wk + 1) 0).set 0 (y + x), ⟨2, wk, 9, 0, x, 0, 0, IntKind.i64.wrap x⟩) := by
      have e1 : runB ba 1 (ws, newB 2 wk) = (ws.set (wk + 1) 0, ⟨2, wk, 1, 0, x, 0, 0, 0⟩) := by simp [runB, newB, stepB, stepBW, hx, h1]
      rw [runB_next, e1]
      dsimp only
      rw [show stepBW ba (ws.set (wk + 1) 0) ⟨2, wk, 1, 0, x, 0, 0, 0⟩ = (ws.set (wk + 1) 0).set 0 (y + x) by unfold stepBW; rw [if_neg (by simp), if_neg (by simp), if_pos rfl, if_neg (by simp), getD_of h0, hs.wrap]]
      simp [stepB]
    have hw := wholeB_of (ba := ba) (ws := ws) (k := 2) (wk := wk) (m := 2) (by omega) (by rw [e])
    rw [hw, e]
  · have hx00 : x = 0 := by omega
    subst hx00
    have e : runB ba 1 (ws, newB 2 wk) = (ws.set (wk + 1) 0, ⟨2, wk, 9, 0, 0, 0, 0, 0⟩) := by simp [runB, newB, stepB, stepBW, hx]
    have hw := wholeB_of (ba := ba) (ws := ws) (k := 2) (wk := wk) (m := 1) (by omega) (by rw [e])
    rw [hw, e, show y + 0 = y by omega]
    dsimp only
    apply List.ext_getElem?
    intro i
    by_cases hi : 0 = i
    · subst hi; rw [List.getElem?_set_self (by rw [List.length_set]; omega), h0]
    · rw [List.getElem?_set_ne hi]
/-- what is left is the sum -/
theorem gather_sum {ba : Int} {ws : List Int} (hu : ∀ x ∈ ws, 0 ≤ x) (hs : ws.sum < 9223372036854775808) : ∀ (m c : Nat) (ans : Int), c < ws.length → ws.length ≤ c + m → (runB ba m (ws, ⟨3, 0, 0, 0, 0, c, (ws.take c).sum, ans⟩)).2.ans = ws.sum := by
  intro m
  induction m with
  | zero => intro c ans h1 h2; omega
  | succ m ih =>
    intro c ans h1 h2
    obtain ⟨x, hx⟩ : ∃ x, ws[c]? = some x := ⟨_, List.getElem?_eq_getElem h1⟩
    have e0 : (ws.take (c + 1)).sum = (ws.take c).sum + x := by rw [List.take_add_one, hx]; simp
    have e1 : 0 ≤ (ws.take (c + 1)).sum ∧ (ws.take (c + 1)).sum ≤ ws.sum := by
      have e : ws.sum = (ws.take (c + 1)).sum + (ws.drop (c + 1)).sum := by rw [← List.sum_append, List.take_append_drop]
      have h1 := sum_pos (ws := ws.drop (c + 1)) (fun x hx => hu x (List.mem_of_mem_drop hx))
      have h2 := sum_pos (ws := ws.take (c + 1)) (fun x hx => hu x (List.mem_of_mem_take hx))
      omega
    have hw : IntKind.u64.wrap ((ws.take c).sum + x) = (ws.take (c + 1)).sum := by rw [← e0, IntKind.wrap_u64]; omega
    unfold runB
    have hbw : stepBW ba ws ⟨3, 0, 0, 0, 0, c, (ws.take c).sum, ans⟩ = ws := by simp [stepBW]
    by_cases e : c + 1 = ws.length
    · have hst : stepB ba ws ⟨3, 0, 0, 0, 0, c, (ws.take c).sum, ans⟩ = ⟨3, 0, 9, 0, 0, c + 1, (ws.take (c + 1)).sum, IntKind.i64.wrap (ws.take (c + 1)).sum⟩ := by simp only [stepB]; rw [if_neg (by simp), if_neg (by simp), if_neg (by simp), if_pos e, getD_of hx, hw]
      dsimp only
      rw [hbw, hst, runB_over rfl]
      dsimp only
      rw [e, List.take_length, IntKind.wrap_i64]
      have := sum_pos hu
      omega
    · have hst : stepB ba ws ⟨3, 0, 0, 0, 0, c, (ws.take c).sum, ans⟩ = ⟨3, 0, 0, 0, 0, c + 1, (ws.take (c + 1)).sum, ans⟩ := by simp only [stepB]; rw [if_neg (by simp), if_neg (by simp), if_neg (by simp), if_neg e, getD_of hx, hw]
      dsimp only
      rw [hbw, hst]
      exact ih (c + 1) ans (by omega) (by omega)
theorem left_sum {ba : Int} {ws : List Int} (hu : ∀ x ∈ ws, 0 ≤ x) (hs : ws.sum < 9223372036854775808) (hl : 0 < ws.length) : ansB ba ws 3 0 = ws.sum := by
  have h := gather_sum (ba := ba) hu hs (ws.length + 5) 0 0 hl (by omega)
  simpa [ansB, wholeB, newB] using h
end Go.Proofs.YteoekkhgpdhnhaaDoor
