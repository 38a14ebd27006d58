/- Plain facts: what two texts have in common at their beginning, and which unit stands at a place. -/
import Derived.Test.YthbphanlmhghdaaDoorTxt
namespace TM

def comN : List UInt8 → List UInt8 → Nat
  | x :: xs, y :: ys => if x = y then comN xs ys + 1 else 0
  | _, _ => 0
theorem com_at : ∀ (a b : List UInt8) (j : Nat), j < comN a b → ∃ c, a[j]? = some c ∧ b[j]? = some c
  | [], b, j, h => by simp [comN] at h
  | x :: xs, [], j, h => by simp [comN] at h
  | x :: xs, y :: ys, j, h => by
    unfold comN at h
    split at h
    · rename_i e
      cases j with
      | zero => exact ⟨x, rfl, by rw [e]; rfl⟩
      | succ j =>
        obtain ⟨c, h1, h2⟩ := com_at xs ys j (by omega)
        exact ⟨c, by simpa using h1, by simpa using h2⟩
    · omega
theorem com_stop : ∀ (a b : List UInt8) (c d : UInt8), a[comN a b]? = some c → b[comN a b]? = some d → c ≠ d
  | [], b, c, d, h, _ => by simp at h
  | x :: xs, [], c, d, _, h => by simp at h
  | x :: xs, y :: ys, c, d, h1, h2 => by
    unfold comN at h1 h2
    split at h1
    · rename_i e
      rw [if_pos e] at h2
      exact com_stop xs ys c d (by simpa using h1) (by simpa using h2)
    · rename_i e
      rw [if_neg e] at h2
      have h1 : x = c := by simpa using h1
      have h2 : y = d := by simpa using h2
      rw [← h1, ← h2]; exact e
theorem com_on {a b : List UInt8} {j : Nat} (hj : j ≤ comN a b) {c : UInt8} (h1 : a[j]? = some c) (h2 : b[j]? = some c) : j < comN a b := by
  rcases Nat.lt_or_ge j (comN a b) with h | h
  · exact h
  · have : j = comN a b := by omega
    subst this
    exact absurd rfl (com_stop a b c c h1 h2)
theorem com_end {a b : List UInt8} {j : Nat} (hj : j ≤ comN a b) (h : a.length ≤ j ∨ b.length ≤ j ∨ ∃ c d, a[j]? = some c ∧ b[j]? = some d ∧ c ≠ d) : j = comN a b := by
  rcases Nat.lt_or_ge j (comN a b) with hl | hl
  · obtain ⟨c, h1, h2⟩ := com_at a b j hl
    rcases h with h | h | ⟨x, y, hx, hy, hne⟩
    · rw [List.getElem?_eq_none h] at h1; cases h1
    · rw [List.getElem?_eq_none h] at h2; cases h2
    · rw [h1] at hx; rw [h2] at hy
      exact absurd ((Option.some.inj hx).symm.trans (Option.some.inj hy)) hne
  · omega
theorem com_le (a b : List UInt8) : comN a b ≤ b.length := by
  rcases Nat.lt_or_ge b.length (comN a b) with h | h
  · obtain ⟨c, _, h2⟩ := com_at a b b.length h
    rw [List.getElem?_eq_none (Nat.le_refl _)] at h2; cases h2
  · exact h
theorem com_le' (a b : List UInt8) : comN a b ≤ a.length := by
  rcases Nat.lt_or_ge a.length (comN a b) with h | h
  · obtain ⟨c, h2, _⟩ := com_at a b a.length h
    rw [List.getElem?_eq_none (Nat.le_refl _)] at h2; cases h2
  · exact h

theorem com_one (l : List UInt8) (b : Nat) (x : UInt8) : comN (l.drop b) [x] = if l[b]? = some x then 1 else 0 := by
  have e : l[b]? = (l.drop b)[0]? := by rw [List.getElem?_drop, Nat.add_zero]
  rw [e]
  cases l.drop b with
  | nil => simp [comN]
  | cons y t => simp [comN]
theorem com_two (l : List UInt8) (b : Nat) (x y : UInt8) : comN (l.drop b) [x, y] = if l[b]? = some x then (if l[b + 1]? = some y then 2 else 1) else 0 := by
  have e : l[b]? = (l.drop b)[0]? := by rw [List.getElem?_drop, Nat.add_zero]
  have e1 : l[b + 1]? = (l.drop b)[1]? := by rw [List.getElem?_drop]
  rw [e, e1]
  cases l.drop b with
  | nil => simp [comN]
  | cons u t =>
    cases t with
    | nil => simp [comN]
    | cons v t =>
      simp only [comN, List.getElem?_cons_zero, List.getElem?_cons_succ, Option.some.injEq]
      by_cases h1 : u = x <;> by_cases h2 : v = y <;> simp [h1, h2]

/-- the search as the program does it: number, end, furthest -/
def stepT (l : List UInt8) (b i : Nat) (s : Nat × Nat × Nat) : Nat × Nat × Nat :=
  (if comN (l.drop b) (uname i) = ulen i ∧ s.2.1 < b + comN (l.drop b) (uname i) then i else s.1,
   if comN (l.drop b) (uname i) = ulen i ∧ s.2.1 < b + comN (l.drop b) (uname i) then b + comN (l.drop b) (uname i) else s.2.1,
   max s.2.2 (b + comN (l.drop b) (uname i)))
def stT (l : List UInt8) (b f : Nat) : Nat → Nat × Nat × Nat
  | 0 => (6, b, b)
  | n + 1 => if n < f then (6, b, b) else stepT l b n (stT l b f n)
theorem stT_start (l : List UInt8) (b f : Nat) : ∀ n, n ≤ f → stT l b f n = (6, b, b)
  | 0, _ => rfl
  | n + 1, h => by unfold stT; rw [if_pos (by omega)]
theorem stT_next (l : List UInt8) (b f n : Nat) (h : f ≤ n) : stT l b f (n + 1) = stepT l b n (stT l b f n) := by
  rw [stT, if_neg (by omega)]

/-- the search as the document does it -/
def stepR (l : List UInt8) (b k : Nat) (s : Int) : Int := if comN (l.drop b) (uname k) = ulen k ∧ (s < 0 ∨ ulen k = 2) then (k : Int) else s
def stR (l : List UInt8) (b f : Nat) : Nat → Int
  | 0 => -1
  | n + 1 => if n < f then -1 else stepR l b n (stR l b f n)
theorem stR_start (l : List UInt8) (b f : Nat) : ∀ n, n ≤ f → stR l b f n = -1
  | 0, _ => rfl
  | n + 1, h => by unfold stR; rw [if_pos (by omega)]
theorem stR_next (l : List UInt8) (b f n : Nat) (h : f ≤ n) : stR l b f (n + 1) = stepR l b n (stR l b f n) := by
  rw [stR, if_neg (by omega)]
def stepF (l : List UInt8) (b k : Nat) (s : Nat) : Nat := if ulen k = 2 ∧ l[b]? = (uname k)[0]? ∧ s < b + 1 then b + 1 else s
def stF (l : List UInt8) (b f : Nat) : Nat → Nat
  | 0 => b
  | n + 1 => if n < f then b else stepF l b n (stF l b f n)
theorem stF_start (l : List UInt8) (b f : Nat) : ∀ n, n ≤ f → stF l b f n = b
  | 0, _ => rfl
  | n + 1, h => by unfold stF; rw [if_pos (by omega)]
theorem stF_next (l : List UInt8) (b f n : Nat) (h : f ≤ n) : stF l b f (n + 1) = stepF l b n (stF l b f n) := by
  rw [stF, if_neg (by omega)]

theorem heads (l : List UInt8) (b : Nat) : l[b]? = some 104 ∨ l[b]? = some 109 ∨ l[b]? = some 115 ∨ l[b]? = some 117 ∨ l[b]? = some 110 ∨
    (l[b]? ≠ some 104 ∧ l[b]? ≠ some 109 ∧ l[b]? ≠ some 115 ∧ l[b]? ≠ some 117 ∧ l[b]? ≠ some 110) := by
  by_cases h1 : l[b]? = some 104
  · exact .inl h1
  by_cases h2 : l[b]? = some 109
  · exact .inr (.inl h2)
  by_cases h3 : l[b]? = some 115
  · exact .inr (.inr (.inl h3))
  by_cases h4 : l[b]? = some 117
  · exact .inr (.inr (.inr (.inl h4)))
  by_cases h5 : l[b]? = some 110
  · exact .inr (.inr (.inr (.inr (.inl h5))))
  exact .inr (.inr (.inr (.inr (.inr ⟨h1, h2, h3, h4, h5⟩))))

def unitOut (l : List UInt8) (b f : Nat) : Nat × Nat := (unitK l b f, if unitK l b f = 6 then unitFar l b f else b + ulen (unitK l b f))

theorem stT_end (l : List UInt8) (b f : Nat) (hf : f ≤ 6) : (stT l b f 6).1 = unitK l b f ∧ (if (stT l b f 6).1 = 6 then (stT l b f 6).2.2 else (stT l b f 6).2.1) = (unitOut l b f).2 := by
  have hf' : f = 0 ∨ f = 1 ∨ f = 2 ∨ f = 3 ∨ f = 4 ∨ f = 5 ∨ f = 6 := by omega
  have hh := heads l b
  by_cases h1 : l[b + 1]? = some 115
  all_goals
    rcases hh with h0 | h0 | h0 | h0 | h0 | ⟨h0, h2, h3, h4, h5⟩
    all_goals
      rcases hf' with rfl | rfl | rfl | rfl | rfl | rfl | rfl
      all_goals simp [stT, stepT, unitOut, unitK, unitFar, uname, ulen, com_one, com_two, *]

theorem stR_end (l : List UInt8) (b f : Nat) (hf : f ≤ 6) : stR l b f 6 = if unitK l b f = 6 then -1 else (unitK l b f : Int) := by
  have hf' : f = 0 ∨ f = 1 ∨ f = 2 ∨ f = 3 ∨ f = 4 ∨ f = 5 ∨ f = 6 := by omega
  have hh := heads l b
  by_cases h1 : l[b + 1]? = some 115
  all_goals
    rcases hh with h0 | h0 | h0 | h0 | h0 | ⟨h0, h2, h3, h4, h5⟩
    all_goals
      rcases hf' with rfl | rfl | rfl | rfl | rfl | rfl | rfl
      all_goals simp [stR, stepR, unitK, uname, ulen, com_one, com_two, *]
theorem stF_end (l : List UInt8) (b f : Nat) (hf : f ≤ 6) (h6 : unitK l b f = 6) : stF l b f 6 = unitFar l b f := by
  have hf' : f = 0 ∨ f = 1 ∨ f = 2 ∨ f = 3 ∨ f = 4 ∨ f = 5 ∨ f = 6 := by omega
  have hh := heads l b
  rcases hh with h0 | h0 | h0 | h0 | h0 | ⟨h0, h2, h3, h4, h5⟩
  all_goals
    rcases hf' with rfl | rfl | rfl | rfl | rfl | rfl | rfl
    all_goals simp [stF, stepF, unitFar, uname, ulen, *]
end TM
