/- THE WALK of the law 'QuotaEarly'. -/
import Derived.Test.YteoekkhgpdhnhaaDoorBt
namespace Go.Proofs.YteoekkhgpdhnhaaDoor
open Go Go.RowKit
set_option maxRecDepth 100000
set_option maxHeartbeats 1600000
/-- what the walk reads behind a step -/
theorem early_facts {W wr w5 : World} {bq bk bw n gn gt i b : Nat} {ba T limit : Int} {ws : List Int} {ss : List (Option (Nat × OpB))} {tb : List Bool} {o : OpB} {e : Ending} {kb : Bool} (h : EarlyB W bq bk bw ba n ws ss tb gn gt T limit wr) (hi : ss[i]? = some (some (b, o))) (hs : SteppedO wr bq bk bw b ba ws o e w5) (hk : (o.k == 1) = kb) :
    Row w5 b 97 (rowB bq (stepB ba ws o)) ∧ Row w5 gn 30 (ss.map ptrS) ∧ w5.cell? ⟨gn, i, none⟩ = some (.pointer (some ⟨b, 0, none⟩)) ∧ (∀ j, w5.frozen? ⟨gn, j, none⟩ = false) ∧ gn < w5.heap.size ∧ w5.cell? ⟨gt, i, none⟩ = some (.bool kb) ∧ gt < w5.heap.size ∧ ¬ gt = gn ∧ ¬ gn = gt ∧ ¬ gn = b ∧ ¬ b = gn := by
  obtain ⟨_, hq5, hr5, hp5⟩ := hs
  have hm := h.op i _ hi
  have nm : ∀ {x : Nat} {t : TypeId} {l : List Value}, Row wr x t l → t ≠ 146 → t ≠ 97 → x ∉ [bw, b] := fun hr h1 h2 => by simp; exact ⟨hr.ne h.one.quo.words.row h1, hr.ne hm.row h2⟩
  have hn5 := h.now.part hp5 (nm h.now (by decide) (by decide))
  have ht5 := h.tks.part hp5 (nm h.tks (by decide) (by decide))
  have tk := hm.tk
  dsimp only at tk
  rw [hk] at tk
  refine ⟨hr5, hn5, ?_, hn5.free, hn5.lt, ?_, ht5.lt, ht5.ne hn5 (by decide), hn5.ne ht5 (by decide), hn5.ne hr5 (by decide), hr5.ne hn5 (by decide)⟩
  · rw [hn5.cell, List.getElem?_map, hi]; rfl
  · rw [ht5.cell, List.getElem?_map, tk]; rfl
theorem early_T {W wr : World} {bq bk bw n gn gt : Nat} {ba T T' limit : Int} {ws : List Int} {ss : List (Option (Nat × OpB))} {tb : List Bool} (e : T' = T) (h : EarlyB W bq bk bw ba n ws ss tb gn gt T' limit wr) : EarlyB W bq bk bw ba n ws ss tb gn gt T limit wr := e ▸ h
theorem ptrs_same {ss : List (Option (Nat × OpB))} {i b : Nat} {o o' : OpB} (h : ss[i]? = some (some (b, o))) : (ss.map ptrS).set i (ptrS (some (b, o'))) = ss.map ptrS := by
  apply List.ext_getElem?
  intro j
  by_cases e : i = j
  · subst e
    rw [List.getElem?_set_self (by rw [List.length_map]; exact lt_of_get h), List.getElem?_map, h]
    rfl
  · rw [List.getElem?_set_ne e]
/-- a take is refused: what is left is with the workers -/
theorem early_ref {W wr : World} {bq bk bw n gn gt i b : Nat} {ba T limit : Int} {ws : List Int} {ss : List (Option (Nat × OpB))} {tb : List Bool} {o : OpB} (h : EarlyB W bq bk bw ba n ws ss tb gn gt T limit wr) (hi : ss[i]? = some (some (b, o))) (hk : o.k = 1) (h9 : (stepB ba ws o).ph = 9) (ha : (stepB ba ws o).ans = 0) : limit - T ≤ (n : Int) * ba := by
  have hm := h.op i _ hi
  have hok1 : OkB ws.length o := by rw [h.one.len]; exact hm.ok
  have hu := h.one.quo.words.ok
  have hba := h.one.quo.lowb
  obtain ⟨k, wk, ph, saw, hand, c, sum, ans⟩ := o
  dsimp only at hk
  subst hk
  have h0 : ws.getD 0 0 = 0 := by
    rcases hok1 with ⟨_, b1, hh⟩ | ⟨a1, _⟩ | ⟨a1, _⟩
    · dsimp only at hh
      have hl := hm.live
      dsimp only at hl
      rcases hh with hh | rfl | ⟨rfl, _⟩ | rfl | ⟨rfl, _⟩ | rfl
      · exact absurd hh hl
      · simp only [stepB] at h9; split at h9 <;> simp_all; (try split at h9) <;> simp_all
      · by_cases e : ws.getD (wk + 1) 0 = saw
        · unfold stepB at ha; rw [if_neg (by simp), if_pos rfl, if_neg (by simp), if_pos rfl, if_pos e] at ha; simp at ha
        · unfold stepB at h9; rw [if_neg (by simp), if_pos rfl, if_neg (by simp), if_pos rfl, if_neg e] at h9; simp at h9
      · by_cases e : 0 < ws.getD 0 0
        · unfold stepB at h9; rw [if_neg (by simp), if_pos rfl, if_neg (by simp), if_neg (by simp), if_pos rfl, if_pos e] at h9; simp at h9
        · have hz := (hu (ws.getD 0 0) (by
            have hlen := h.one.len
            rw [List.getD_eq_getElem?_getD, List.getElem?_eq_getElem (show 0 < ws.length by omega)]
            exact List.getElem_mem _)).1
          omega
      · by_cases e : ws.getD 0 0 = saw
        · by_cases e1 : min ba saw = 1
          · unfold stepB at ha; rw [if_neg (by simp), if_pos rfl, if_neg (by simp), if_neg (by simp), if_neg (by simp), if_pos rfl, if_pos e, if_pos e1] at ha; simp at ha
          · unfold stepB at h9; rw [if_neg (by simp), if_pos rfl, if_neg (by simp), if_neg (by simp), if_neg (by simp), if_pos rfl, if_pos e, if_neg e1] at h9; simp at h9
        · unfold stepB at h9; rw [if_neg (by simp), if_pos rfl, if_neg (by simp), if_neg (by simp), if_neg (by simp), if_pos rfl, if_neg e] at h9; simp at h9
      · simp [stepB] at ha
    · simp at a1
    · simp at a1
  exact h.refused h0
theorem early_start {W w : World} {bq bk bw n gn gt : Nat} {ba limit : Int} (h : OneB W bq bk bw ba n (startW limit n) w) (hg : Row w gn 30 (List.replicate n (.pointer none))) (ht : Row w gt 4 (List.replicate n (.bool false))) (h1 : W.heap.size ≤ gn) (h2 : W.heap.size ≤ gt) (hl : limit ≤ 1099511627776) (hb : 1 ≤ ba) :
    EarlyB W bq bk bw ba n (startW limit n) (List.replicate n none) (List.replicate n false) gn gt 0 limit w := by
  have sn : ∀ m : Nat, (List.replicate m (0 : Int)).sum = 0 := fun m => by
    induction m with
    | zero => rfl
    | succ m ih => rw [List.replicate_succ]; simp [ih]
  have no : ∀ (i : Nat) (p : Nat × OpB), ¬ (List.replicate n (none : Option (Nat × OpB)))[i]? = some (some p) := fun i p hp => by
    rw [List.getElem?_replicate] at hp
    split at hp
    · simp at hp
    · simp at hp
  refine ⟨h, by simpa [ptrS] using hg, by simpa using ht, by simp, by simp, fun i p hp => absurd hp (no i p), fun i j p q hp => absurd hp (no i p), fun i s hs => ?_, ?_, Int.le_refl _, hl, h1, h2⟩
  · rw [List.getElem?_replicate] at hs
    split at hs
    · simp at hs
      subst hs
      have e : (startW limit n).getD (i + 1) 0 = 0 := by
        simp only [startW, List.getD_eq_getElem?_getD, List.getElem?_cons_succ, List.getElem?_replicate]
        split <;> rfl
      rw [e]
      show (0 : Int) + 0 ≤ ba
      omega
    · simp at hs
  · have e2 : (List.replicate n (none : Option (Nat × OpB))).map handS = List.replicate n 0 := by simp [handS]
    rw [e2, sn]
    unfold startW
    rw [List.sum_cons, sn]
    omega
set_option maxHeartbeats 25600000
end Go.Proofs.YteoekkhgpdhnhaaDoor
