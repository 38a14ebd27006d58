/- SCHEDULES OF OPERATIONS, WITHOUT A PROGRAM: what a schedule comes to; all puts end. -/
import Derived.Test.YtdadgppbpomdoaaPt
namespace Go.Proofs.Ytdadgppbpomdoaa
open Go Go.RowKit

/-- one action of operation number k, if there is one -/
def stepL (s : List Int × List OpQ) (k : Int) : List Int × List OpQ :=
  if 0 ≤ k ∧ k < (s.2.length : Int) then
    match s.2[k.toNat]? with
    | some o => (stepQW s.1 o, s.2.set k.toNat (stepQ s.1 o))
    | none => s
  else s
def runL (s : List Int × List OpQ) (l : List Int) : List Int × List OpQ := l.foldl stepL s
theorem runL_append (s : List Int × List OpQ) (a b : List Int) : runL s (a ++ b) = runL (runL s a) b := by simp [runL]
theorem runL_snoc (s : List Int × List OpQ) {l : List Int} {i : Nat} {k : Int} (h : l[i]? = some k) : runL s (l.take (i + 1)) = stepL (runL s (l.take i)) k := by
  rw [List.take_add_one, h, runL_append]
  rfl
theorem stepL_out {s : List Int × List OpQ} {k : Int} (h : ¬ (0 ≤ k ∧ k < (s.2.length : Int))) : stepL s k = s := by unfold stepL; rw [if_neg h]
theorem stepL_at {ws : List Int} {os : List OpQ} {q : Nat} {o : OpQ} (h : os[q]? = some o) : stepL (ws, os) (q : Int) = (stepQW ws o, os.set q (stepQ ws o)) := by
  unfold stepL
  have := lt_of_get h
  rw [if_pos ⟨by omega, by simp; omega⟩]
  simp [h]
theorem stepQ_same (ws : List Int) (o : OpQ) : (stepQ ws o).k = o.k ∧ (stepQ ws o).r = o.r ∧ (stepQ ws o).v = o.v ∧ (stepQ ws o).t = o.t := by
  unfold stepQ
  repeat (first | exact ⟨rfl, rfl, rfl, rfl⟩ | split)
theorem stepQ_over {ws : List Int} {o : OpQ} (h : o.ph = 2) : stepQ ws o = o ∧ stepQW ws o = ws := ⟨by unfold stepQ; rw [if_pos h], by unfold stepQW; rw [if_neg (by omega)]⟩
theorem stepL_over {ws : List Int} {os : List OpQ} {q : Nat} {o : OpQ} (h : os[q]? = some o) (hph : o.ph = 2) : stepL (ws, os) (q : Int) = (ws, os) := by
  rw [stepL_at h, (stepQ_over hph).1, (stepQ_over hph).2]
  congr 1
  exact List.ext_getElem? fun i => by
    by_cases e : i = q
    · subst e; rw [List.getElem?_set_self (lt_of_get h), h]
    · rw [List.getElem?_set_ne (fun e' => e e'.symm)]
theorem stepL_len (s : List Int × List OpQ) (k : Int) : (stepL s k).2.length = s.2.length := by
  unfold stepL
  split
  · split <;> simp
  · rfl
/-- of operation j, behind an action of operation k -/
theorem stepL_get {s : List Int × List OpQ} {k : Int} {j : Nat} {o : OpQ} (h : s.2[j]? = some o) : ∃ o', (stepL s k).2[j]? = some o' ∧ o'.k = o.k ∧ (o.ph = 2 → o'.ph = 2) ∧ (k ≠ (j : Int) → o' = o) := by
  unfold stepL
  split
  · rename_i hk
    split
    · rename_i o1 h1
      by_cases e : k.toNat = j
      · rw [e] at h1
        rw [h] at h1
        cases h1
        refine ⟨stepQ s.1 o, ?_, (stepQ_same _ _).1, fun hp => by rw [(stepQ_over hp).1]; exact hp, fun hne => absurd (by omega) hne⟩
        simp only
        rw [e, List.getElem?_set_self (lt_of_get h)]
      · refine ⟨o, ?_, rfl, fun hp => hp, fun _ => rfl⟩
        simp only
        rw [List.getElem?_set_ne e]
        exact h
    · exact ⟨o, h, rfl, fun hp => hp, fun _ => rfl⟩
  · exact ⟨o, h, rfl, fun hp => hp, fun _ => rfl⟩
theorem runL_len (s : List Int × List OpQ) (l : List Int) : (runL s l).2.length = s.2.length := by
  induction l generalizing s with
  | nil => rfl
  | cons k l ih => show (runL (stepL s k) l).2.length = _; rw [ih, stepL_len]
theorem runL_get {s : List Int × List OpQ} {l : List Int} {j : Nat} {o : OpQ} (h : s.2[j]? = some o) : ∃ o', (runL s l).2[j]? = some o' ∧ o'.k = o.k ∧ (o.ph = 2 → o'.ph = 2) := by
  induction l generalizing s o with
  | nil => exact ⟨o, h, rfl, fun hp => hp⟩
  | cons k l ih =>
    obtain ⟨o1, h1, hk1, hp1, _⟩ := stepL_get (k := k) h
    obtain ⟨o2, h2, hk2, hp2⟩ := ih h1
    exact ⟨o2, h2, hk2.trans hk1, fun hp => hp2 (hp1 hp)⟩
/-- three actions of a put alone end it -/
theorem three_end {ws : List Int} {os : List OpQ} {q : Nat} {o : OpQ} (h : os[q]? = some o) (hk : o.k = 1) (hph : o.ph ≤ 2) : ∃ o', (runL (ws, os) [(q : Int), q, q]).2[q]? = some o' ∧ o'.ph = 2 := by
  have hl := lt_of_get h
  show ∃ o', (stepL (stepL (stepL (ws, os) q) q) q).2[q]? = some o' ∧ o'.ph = 2
  have one : ∀ (ws : List Int) (os : List OpQ) (o : OpQ), os[q]? = some o → o.k = 1 → o.ph = 1 → ws.getD o.r.toNat 0 = o.saw → ∃ o', (stepL (ws, os) q).2[q]? = some o' ∧ o'.ph = 2 := fun ws os o h hk hp hs => by
    rw [stepL_at h]
    refine ⟨_, List.getElem?_set_self (lt_of_get h), ?_⟩
    unfold stepQ
    rw [if_neg (by omega), if_pos hk, if_neg (by omega), if_pos hs]
  have two : ∀ (ws : List Int) (os : List OpQ) (o : OpQ), os[q]? = some o → o.k = 1 → o.ph = 0 → ∃ o', (stepL (stepL (ws, os) q) q).2[q]? = some o' ∧ o'.ph = 2 := fun ws os o h hk hp => by
    rw [stepL_at h]
    have e1 : stepQW ws o = ws := by unfold stepQW; rw [if_neg (by omega)]
    have e2 : stepQ ws o = { o with ph := 1, saw := ws.getD o.r.toNat 0 } := by unfold stepQ; rw [if_neg (by omega), if_pos hk, if_pos hp]
    rw [e1, e2]
    exact one ws _ _ (List.getElem?_set_self (lt_of_get h)) hk rfl rfl
  by_cases h2 : o.ph = 2
  · rw [stepL_over h h2, stepL_over h h2, stepL_over h h2]
    exact ⟨o, h, h2⟩
  by_cases h0 : o.ph = 0
  · obtain ⟨o', h', hp'⟩ := two ws os o h hk h0
    obtain ⟨o'', h'', _, hp'', _⟩ := stepL_get (k := (q : Int)) h'
    exact ⟨o'', h'', hp'' hp'⟩
  · have h1 : o.ph = 1 := by omega
    by_cases hs : ws.getD o.r.toNat 0 = o.saw
    · obtain ⟨o', h', hp'⟩ := one ws os o h hk h1 hs
      obtain ⟨o'', h'', _, hp'', _⟩ := stepL_get (k := (q : Int)) h'
      obtain ⟨o3, h3, _, hp3, _⟩ := stepL_get (k := (q : Int)) h''
      exact ⟨o3, h3, hp3 (hp'' hp')⟩
    · rw [stepL_at h]
      have e1 : stepQW ws o = ws := by unfold stepQW; rw [if_neg (fun e => hs e.2.2)]
      have e2 : stepQ ws o = { o with ph := 0 } := by unfold stepQ; rw [if_neg h2, if_pos hk, if_neg h0, if_neg hs]
      rw [e1, e2]
      exact two ws _ _ (List.getElem?_set_self (lt_of_get h)) hk rfl
/-- how many actions each operation is given at the end -/
def stepsQ (n : Nat) (k : Int) : Nat := if k = 3 then 3 * n else 3
/-- the actions of the first k operations, each to its end -/
def tailTo (n : Nat) (os : List OpQ) : Nat → List Int
  | 0 => []
  | k + 1 => tailTo n os k ++ List.replicate (stepsQ n ((os.map OpQ.k).getD k 0)) (k : Int)
theorem tailTo_length (n : Nat) (os : List OpQ) (k : Nat) (hn : 1 ≤ n) : (tailTo n os k).length ≤ 3 * n * k := by
  induction k with
  | zero => simp [tailTo]
  | succ k ih =>
    simp only [tailTo, List.length_append, List.length_replicate]
    have : stepsQ n ((os.map OpQ.k).getD k 0) ≤ 3 * n := by unfold stepsQ; split <;> omega
    rw [Nat.mul_add]
    omega
theorem tail_ends {n : Nat} {os0 : List OpQ} (s : List Int × List OpQ) (hk : s.2.map OpQ.k = os0.map OpQ.k) (hph : ∀ o ∈ s.2, o.ph ≤ 2) (hstep : ∀ (s' : List Int × List OpQ) (k : Int), (∀ o ∈ s'.2, o.ph ≤ 2) → ∀ o ∈ (stepL s' k).2, o.ph ≤ 2) (m : Nat) (hm : m ≤ s.2.length) :
    ∀ j o, j < m → (runL s (tailTo n os0 m)).2[j]? = some o → o.k = 1 → o.ph = 2 := by
  have hrun : ∀ (l : List Int) (s' : List Int × List OpQ), (∀ o ∈ s'.2, o.ph ≤ 2) → ∀ o ∈ (runL s' l).2, o.ph ≤ 2 := fun l => by
    induction l with
    | nil => intro s' h; exact h
    | cons k l ih => intro s' h; exact ih _ (hstep s' k h)
  induction m with
  | zero => intro j o hj; omega
  | succ m ih =>
    intro j o hj ho hko
    simp only [tailTo] at ho
    rw [runL_append] at ho
    by_cases e : j = m
    · subst e
      obtain ⟨o1, h1⟩ : ∃ o1, (runL s (tailTo n os0 j)).2[j]? = some o1 := ⟨_, List.getElem?_eq_getElem (by rw [runL_len]; omega)⟩
      have hk1 : o1.k = 1 := by
        obtain ⟨o2, h2, hk2, _⟩ := runL_get (l := List.replicate (stepsQ n ((os0.map OpQ.k).getD j 0)) (j : Int)) h1
        rw [ho] at h2
        cases h2
        rw [← hk2]; exact hko
      have hkk : (os0.map OpQ.k).getD j 0 = 1 := by
        obtain ⟨o0, h0⟩ : ∃ o0, s.2[j]? = some o0 := ⟨_, List.getElem?_eq_getElem (by omega)⟩
        obtain ⟨o2, h2, hk2, _⟩ := runL_get (l := tailTo n os0 j) h0
        rw [h1] at h2
        cases h2
        rw [← hk]
        simp [List.getD, h0, ← hk2, hk1]
      rw [hkk] at ho
      have e3 : List.replicate (stepsQ n 1) (j : Int) = [(j : Int), j, j] := rfl
      rw [e3] at ho
      obtain ⟨o2, h2, hp2⟩ := three_end (ws := (runL s (tailTo n os0 j)).1) h1 hk1 (hrun _ s hph o1 (List.mem_of_getElem? h1))
      rw [ho] at h2
      cases h2
      exact hp2
    · obtain ⟨o1, h1⟩ : ∃ o1, (runL s (tailTo n os0 m)).2[j]? = some o1 := ⟨_, List.getElem?_eq_getElem (by rw [runL_len]; omega)⟩
      obtain ⟨o2, h2, hk2, hp2⟩ := runL_get (l := List.replicate (stepsQ n ((os0.map OpQ.k).getD m 0)) (m : Int)) h1
      rw [ho] at h2
      cases h2
      exact hp2 (ih (by omega) j o1 (by omega) h1 (by rw [← hk2]; exact hko))
theorem stepL_phase (s : List Int × List OpQ) (k : Int) (h : ∀ o ∈ s.2, o.ph ≤ 2) : ∀ o ∈ (stepL s k).2, o.ph ≤ 2 := by
  have hq : ∀ (ws : List Int) (o : OpQ), o.ph ≤ 2 → (stepQ ws o).ph ≤ 2 := fun ws o ho => by
    unfold stepQ
    repeat (first | exact ho | exact Nat.le_refl 2 | exact (by decide : (1 : Nat) ≤ 2) | exact Nat.zero_le 2 | split)
  unfold stepL
  split
  · split
    · rename_i o1 h1
      intro o ho
      rcases List.mem_or_eq_of_mem_set ho with ho | rfl
      · exact h o ho
      · exact hq _ _ (h o1 (List.mem_of_getElem? h1))
    · exact h
  · exact h
end Go.Proofs.Ytdadgppbpomdoaa
