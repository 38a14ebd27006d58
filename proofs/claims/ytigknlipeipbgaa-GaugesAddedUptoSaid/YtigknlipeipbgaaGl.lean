/- THE GREATEST AND THE LEAST under any schedule: plain mathematics. -/
import Derived.Test.YtigknlipeipbgaaGk
namespace Go.Proofs.Ytigknlipeipbgaa
open Go Go.RowKit

/-- where a float stands: what is put is what stands lower -/
def key (lst : Bool) (b : Nat) : Int := if GM.nan b then (if lst then 18446744073709551616 else 1) else (if lst then (GM.rank b : Int) else -(GM.rank b : Int))
theorem rank_lt {b : Nat} (h : B64 b) : GM.rank b < 18446744073709551616 := by unfold B64 at h; unfold GM.rank; split <;> omega
def kindOf (lst : Bool) : Int := if lst then 5 else 4
theorem above_key {lst : Bool} {x v : Nat} (hx : B64 x) (hv : B64 v) : (key lst x < key lst v) ↔ (if lst then (!GM.nan x && (GM.nan v || GM.above v x)) = true else GM.above x v = true) := by
  have h1 := rank_lt hx
  have h2 := rank_lt hv
  unfold key GM.above
  cases lst <;> cases GM.nan x <;> cases GM.nan v <;> simp <;> omega
theorem puts_key (lst : Bool) {x v : Nat} (hx : B64 x) (hv : B64 v) : putG (kindOf lst) x v = if key lst x < key lst v then some (GM.bitsOf x) else none := by
  have h := above_key (lst := lst) hx hv
  cases lst
  · simp only [kindOf, putG]
    simp at h
    by_cases e : key false x < key false v
    · rw [if_pos e]; simp [h.1 e]
    · have : ¬ GM.above x v = true := fun k => e (h.2 k)
      rw [if_neg e]; simp [this]
  · simp only [kindOf, putG]
    simp at h
    by_cases e : key true x < key true v
    · rw [if_pos e]; have := h.1 e; simp [this.1, this.2]
    · rw [if_neg e]
      have : ¬ (GM.nan x = false ∧ (GM.nan v = true ∨ GM.above v x = true)) := fun k => e (h.2 k)
      cases h1 : GM.nan x <;> cases h2 : GM.nan v <;> cases h3 : GM.above v x <;> simp [h1, h2, h3] at this ⊢
theorem key_bits (lst : Bool) (b : Nat) : key lst (GM.bitsOf b) = key lst b := by
  unfold key
  rw [GM.nan_bits]
  cases h : GM.nan b with
  | true => rfl
  | false => rw [GM.bits_num h]
theorem key_inj {lst : Bool} {a b : Nat} (ha : B64 a) (hb : B64 b) (h : key lst a = key lst b) : GM.bitsOf a = GM.bitsOf b := by
  have h1 := rank_lt ha
  have h2 := rank_lt hb
  unfold key at h
  cases na : GM.nan a <;> cases nb : GM.nan b <;> rw [na, nb] at h
  · have e : GM.rank a = GM.rank b := by cases lst <;> simp at h <;> omega
    rw [GM.rank_inj ha hb e]
  · exfalso; cases lst <;> simp at h <;> omega
  · exfalso; cases lst <;> simp at h <;> omega
  · simp [GM.bitsOf, na, nb]
/-- what is looked for, of the first ones -/
def wantF (lst : Bool) (start : Nat) (xs : List Nat) : Nat := xs.foldl (fun w x => if key lst x < key lst w then x else w) start
theorem wantF_next {lst : Bool} {start : Nat} {xs : List Nat} {j x : Nat} (h : xs[j]? = some x) : wantF lst start (xs.take (j + 1)) = if key lst x < key lst (wantF lst start (xs.take j)) then x else wantF lst start (xs.take j) := by
  rw [List.take_add_one, h]
  unfold wantF
  rw [List.foldl_append]
  rfl
theorem wantF_mem (lst : Bool) (xs : List Nat) : ∀ start, wantF lst start xs ∈ start :: xs := by
  induction xs with
  | nil => intro start; simp [wantF]
  | cons a xs ih =>
    intro start
    have e : wantF lst start (a :: xs) = wantF lst (if key lst a < key lst start then a else start) xs := rfl
    rw [e]
    by_cases c : key lst a < key lst start
    · rw [if_pos c]
      rcases List.mem_cons.1 (ih a) with h | h
      · rw [h]; simp
      · exact List.mem_cons_of_mem _ (List.mem_cons_of_mem _ h)
    · rw [if_neg c]
      rcases List.mem_cons.1 (ih start) with h | h
      · rw [h]; simp
      · exact List.mem_cons_of_mem _ (List.mem_cons_of_mem _ h)
theorem wantF_le (lst : Bool) (xs : List Nat) : ∀ start, ∀ y ∈ start :: xs, key lst (wantF lst start xs) ≤ key lst y := by
  induction xs with
  | nil => intro start y hy; simp at hy; subst hy; simp [wantF]
  | cons a xs ih =>
    intro start y hy
    have e : wantF lst start (a :: xs) = wantF lst (if key lst a < key lst start then a else start) xs := rfl
    rw [e]
    have h0 := ih (if key lst a < key lst start then a else start) _ (List.mem_cons_self ..)
    simp at hy
    rcases hy with rfl | rfl | hy
    · split at h0 <;> split <;> omega
    · split at h0 <;> split <;> omega
    · exact ih _ y (by simp [hy])
/-- what holds behind each action -/
structure MostI (lst : Bool) (start : Nat) (xs : List Nat) (T : Nat) (os : List OpG) : Prop where
  mem : ∃ y, y ∈ start :: xs ∧ T = GM.bitsOf y
  low : key lst T ≤ key lst start
  len : os.length = xs.length
  ops : ∀ (q : Nat) o, os[q]? = some o → o.k = kindOf lst ∧ xs[q]? = some o.x ∧ (o.ph = 2 → key lst T ≤ key lst o.x ∧ key lst T ≤ key lst o.ans)
theorem MostI.start (lst : Bool) (start : Nat) (xs : List Nat) : MostI lst start xs (GM.bitsOf start) (xs.map (newG (kindOf lst))) := by
  refine ⟨⟨start, by simp, rfl⟩, by rw [key_bits]; exact Int.le_refl _, by simp, fun q o ho => ?_⟩
  rw [List.getElem?_map] at ho
  obtain ⟨x, hx, rfl⟩ := Option.map_eq_some_iff.1 ho
  exact ⟨rfl, hx, by simp [newG]⟩
theorem kindOf_ne2 (lst : Bool) : kindOf lst ≠ 2 := by cases lst <;> decide
theorem MostI.stays (lst : Bool) (start : Nat) (xs : List Nat) : Stays (MostI lst start xs) := by
  intro T os q o hT ho hok h
  obtain ⟨hk, hx, hend⟩ := h.ops q o ho
  have k2 : o.k ≠ 2 := by rw [hk]; exact kindOf_ne2 lst
  have same : ∀ (o' : OpG) (T' : Nat), o'.k = o.k → o'.x = o.x → key lst T' ≤ key lst T → (o'.ph = 2 → key lst T' ≤ key lst o'.x ∧ key lst T' ≤ key lst o'.ans) →
      ∀ (p : Nat) y, (os.set q o')[p]? = some y → y.k = kindOf lst ∧ xs[p]? = some y.x ∧ (y.ph = 2 → key lst T' ≤ key lst y.x ∧ key lst T' ≤ key lst y.ans) := by
    intro o' T' e1 e2 hle hp p y hy
    by_cases e : p = q
    · subst e
      rw [List.getElem?_set_self (lt_of_get ho)] at hy
      cases hy
      exact ⟨e1.trans hk, by rw [e2]; exact hx, hp⟩
    · rw [List.getElem?_set_ne (fun e' => e e'.symm)] at hy
      obtain ⟨a, b, c⟩ := h.ops p y hy
      exact ⟨a, b, fun hph => by have := c hph; omega⟩
  have hph := hok.ph
  by_cases h0 : o.ph = 0
  · have hw : wordG T o = T := by simp [wordG, h0, k2]
    rw [hw]
    have hpk := puts_key lst (x := o.x) (v := T) hok.x hT
    rw [← hk] at hpk
    by_cases e : key lst o.x < key lst T
    · rw [if_pos e] at hpk
      have hs : stepG T o = { o with ph := 1, saw := T, put := GM.bitsOf o.x } := by simp [stepG, h0, k2, hpk]
      rw [hs]
      exact ⟨h.mem, h.low, by simp [h.len], same _ T rfl rfl (Int.le_refl _) (by simp)⟩
    · rw [if_neg e] at hpk
      have hs : stepG T o = { o with ph := 2, ans := T } := by simp [stepG, h0, k2, hpk]
      rw [hs]
      exact ⟨h.mem, h.low, by simp [h.len], same _ T rfl rfl (Int.le_refl _) (fun _ => ⟨by dsimp only; omega, Int.le_refl _⟩)⟩
  · by_cases h1 : o.ph = 1
    · obtain ⟨l1, l2, l3⟩ := hok.loaded h1
      have hpk := puts_key lst (x := o.x) (v := o.saw) hok.x l3
      rw [← hk, l1] at hpk
      have e : key lst o.x < key lst o.saw := by
        rcases Int.lt_or_le (key lst o.x) (key lst o.saw) with e | e
        · exact e
        · rw [if_neg (by omega)] at hpk; cases hpk
      rw [if_pos e] at hpk
      have hput : o.put = GM.bitsOf o.x := Option.some.inj hpk
      by_cases et : T = o.saw
      · have hw : wordG T o = GM.bitsOf o.x := by simp [wordG, h1, et, hput]
        have hs : stepG T o = { o with ph := 2, ans := o.put } := by simp [stepG, h1, et]
        have hle : key lst (GM.bitsOf o.x) ≤ key lst T := by rw [key_bits, et]; omega
        rw [hw, hs]
        have hlow := h.low
        exact ⟨⟨o.x, by simp [List.mem_of_getElem? hx], rfl⟩, by omega, by simp [h.len], same _ _ rfl rfl hle (fun _ => ⟨by rw [key_bits]; exact Int.le_refl _, by dsimp only; rw [hput]; exact Int.le_refl _⟩)⟩
      · have hw : wordG T o = T := by simp [wordG, h1, et]
        have hs : stepG T o = { o with ph := 0 } := by simp [stepG, h1, et]
        rw [hw, hs]
        exact ⟨h.mem, h.low, by simp [h.len], same _ T rfl rfl (Int.le_refl _) (by simp)⟩
    · have hw : wordG T o = T := by simp [wordG, h0, h1]
      have hs : stepG T o = o := by simp [stepG, h0, h1]
      rw [hw, hs]
      have : os.set q o = os := by
        apply List.ext_getElem?
        intro p
        by_cases e : p = q
        · subst e; rw [List.getElem?_set_self (lt_of_get ho), ho]
        · rw [List.getElem?_set_ne (fun e' => e e'.symm)]
      rw [this]
      exact h
/-- at the end the gauge has what is looked for -/
theorem MostI.end_ {lst : Bool} {start T : Nat} {xs : List Nat} {os : List OpG} (h : MostI lst start xs T os) (hO : Over os xs.length) (hs : B64 start) (hx : ∀ x, x ∈ xs → B64 x) : GM.bitsOf (wantF lst start xs) = T := by
  obtain ⟨y, hy, rfl⟩ := h.mem
  have hb : ∀ z, z ∈ start :: xs → B64 z := fun z hz => by
    rcases List.mem_cons.1 hz with rfl | hz
    · exact hs
    · exact hx z hz
  have h1 := wantF_le lst xs start y hy
  have hm := wantF_mem lst xs start
  have h2 : key lst (GM.bitsOf y) ≤ key lst (wantF lst start xs) := by
    rcases List.mem_cons.1 hm with e | e
    · rw [e]; exact h.low
    · obtain ⟨q, hq⟩ := List.getElem?_of_mem e
      have hl : q < os.length := by rw [h.len]; exact lt_of_get hq
      obtain ⟨a, b, c⟩ := h.ops q _ (List.getElem?_eq_getElem hl)
      rw [hq] at b
      have := (c (hO q _ (by rw [← h.len]; exact hl) (List.getElem?_eq_getElem hl))).1
      rw [← Option.some.inj b] at this
      exact this
  rw [key_bits] at h2
  exact key_inj (lst := lst) (hb _ hm) (hb y hy) (by omega)
/-- and no answer stands beyond it -/
theorem MostI.answer {lst : Bool} {start T want : Nat} {xs : List Nat} {os : List OpG} (h : MostI lst start xs T os) (hw : GM.bitsOf want = T) {q : Nat} {o : OpG} (ho : os[q]? = some o) (h2 : o.ph = 2) (hn : GM.nan o.ans = false) :
    (lst = true → GM.above want o.ans = false) ∧ (lst = false → GM.above o.ans want = false) := by
  have hk := ((h.ops q o ho).2.2 h2).2
  rw [← hw, key_bits] at hk
  unfold key at hk
  rw [hn] at hk
  unfold GM.above
  rw [hn]
  cases lst <;> cases hv : GM.nan want <;> rw [hv] at hk <;> simp at hk ⊢ <;> omega
end Go.Proofs.Ytigknlipeipbgaa
