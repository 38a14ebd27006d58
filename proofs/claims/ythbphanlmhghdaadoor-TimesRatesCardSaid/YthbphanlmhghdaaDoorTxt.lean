import Derived.Test.YthbphanlmhghdaaDoorNum
import Derived.Lib.ItoaNum
namespace TM
open Go.Lib

/-! ### numbers in a text -/
def isDig (c : UInt8) : Bool := decide (48 ≤ c.toNat) && decide (c.toNat ≤ 57)
def dval (c : UInt8) : Int := (c.toNat : Int) - 48
def stepN (most n : Int) (c : UInt8) : Int := if (most - dval c) / 10 < n then most + 1 else 10 * n + dval c
def digEnd (l : List UInt8) (i : Nat) : Nat := i + ((l.drop i).takeWhile isDig).length
def accN (most : Int) (l : List UInt8) (i e : Nat) : Int := ((l.drop i).take (e - i)).foldl (stepN most) 0

theorem digEnd_ge (l : List UInt8) (i : Nat) : i ≤ digEnd l i := by unfold digEnd; omega
theorem takeWhile_le (p : UInt8 → Bool) : ∀ l : List UInt8, (l.takeWhile p).length ≤ l.length
  | [] => by simp
  | c :: t => by
    rw [List.takeWhile_cons]
    split
    · simpa using takeWhile_le p t
    · simp
theorem digEnd_le (l : List UInt8) (i : Nat) (h : i ≤ l.length) : digEnd l i ≤ l.length := by
  have := takeWhile_le isDig (l.drop i)
  rw [List.length_drop] at this
  unfold digEnd; omega

theorem takeWhile_at (p : UInt8 → Bool) : ∀ (l : List UInt8) (k : Nat), k < (l.takeWhile p).length → ∃ c, l[k]? = some c ∧ p c = true
  | [], k, h => by simp at h
  | c :: t, k, h => by
    rw [List.takeWhile_cons] at h
    cases hc : p c
    · rw [hc] at h; simp at h
    · rw [hc] at h
      cases k with
      | zero => exact ⟨c, rfl, hc⟩
      | succ k =>
        have h : k < (t.takeWhile p).length := by simpa using h
        obtain ⟨d, h1, h2⟩ := takeWhile_at p t k h
        exact ⟨d, by simpa using h1, h2⟩
theorem takeWhile_stop (p : UInt8 → Bool) : ∀ (l : List UInt8) (c : UInt8), l[(l.takeWhile p).length]? = some c → p c = false
  | [], c, h => by simp at h
  | a :: t, c, h => by
    rw [List.takeWhile_cons] at h
    cases ha : p a
    · rw [ha] at h
      have e : a = c := by simpa using h
      rw [← e]; exact ha
    · rw [ha] at h
      exact takeWhile_stop p t c (by simpa using h)

/-- inside the digits -/
theorem dig_in {l : List UInt8} {i j : Nat} (h1 : i ≤ j) (h2 : j < digEnd l i) : ∃ c, l[j]? = some c ∧ isDig c = true := by
  obtain ⟨c, a, b⟩ := takeWhile_at isDig (l.drop i) (j - i) (by unfold digEnd at h2; omega)
  rw [List.getElem?_drop] at a
  exact ⟨c, by rw [← a]; congr 1; omega, b⟩
theorem dig_stop {l : List UInt8} {i : Nat} {c : UInt8} (h : l[digEnd l i]? = some c) : isDig c = false := by
  apply takeWhile_stop isDig (l.drop i) c
  rw [List.getElem?_drop]
  exact h
/-- one more: where the next is a digit, the digits go on -/
theorem dig_on {l : List UInt8} {i j : Nat} (h2 : j ≤ digEnd l i) {c : UInt8} (hc : l[j]? = some c) (hd : isDig c = true) : j < digEnd l i := by
  rcases Nat.lt_or_ge j (digEnd l i) with h | h
  · exact h
  · have : j = digEnd l i := by omega
    subst this
    rw [dig_stop hc] at hd
    cases hd
theorem dig_end {l : List UInt8} {i j : Nat} (h1 : i ≤ j) (h2 : j ≤ digEnd l i) (h : l.length ≤ j ∨ ∃ c, l[j]? = some c ∧ isDig c = false) : j = digEnd l i := by
  rcases Nat.lt_or_ge j (digEnd l i) with hl | hl
  · obtain ⟨c, a, b⟩ := dig_in h1 hl
    rcases h with h | ⟨d, h, hd⟩
    · rw [List.getElem?_eq_none h] at a; cases a
    · rw [h] at a; injection a with a; subst a; rw [hd] at b; cases b
  · omega

theorem accN_self (most : Int) (l : List UInt8) (i : Nat) : accN most l i i = 0 := by simp [accN]
theorem accN_succ (most : Int) (l : List UInt8) (i j : Nat) (c : UInt8) (h : i ≤ j) (hc : l[j]? = some c) : accN most l i (j + 1) = stepN most (accN most l i j) c := by
  unfold accN
  have hj : (l.drop i)[j - i]? = some c := by rw [List.getElem?_drop, ← hc]; congr 1; omega
  have hlt : j - i < (l.drop i).length := by
    rcases Nat.lt_or_ge (j - i) (l.drop i).length with h | h
    · exact h
    · rw [List.getElem?_eq_none h] at hj; cases hj
  have hg : (l.drop i)[j - i] = c := by rw [List.getElem?_eq_getElem hlt] at hj; injection hj
  rw [show j + 1 - i = (j - i) + 1 by omega, List.take_succ_eq_append_getElem hlt, List.foldl_append, hg]
  rfl

theorem dval_bd {c : UInt8} (h : isDig c = true) : 0 ≤ dval c ∧ dval c ≤ 9 := by
  unfold isDig at h; unfold dval
  simp at h
  omega
theorem stepN_bd {most n : Int} {c : UInt8} (hm : 9 ≤ most) (h : isDig c = true) (hn : 0 ≤ n) : 0 ≤ stepN most n c ∧ stepN most n c ≤ most + 1 := by
  have := dval_bd h
  unfold stepN
  split <;> omega
theorem accN_bd (most : Int) (l : List UInt8) (i : Nat) (hm : 9 ≤ most) : ∀ j, i ≤ j → j ≤ digEnd l i → 0 ≤ accN most l i j ∧ accN most l i j ≤ most + 1
  | 0, h1, _ => by
    have : i = 0 := by omega
    subst this
    rw [accN_self]; omega
  | j + 1, h1, h2 => by
    rcases Nat.eq_or_lt_of_le h1 with h | h
    · rw [← h, accN_self]; omega
    · obtain ⟨c, hc, hd⟩ := dig_in (l := l) (i := i) (j := j) (by omega) (by omega)
      rw [accN_succ most l i j c (by omega) hc]
      exact stepN_bd hm hd (accN_bd most l i hm j (by omega) (by omega)).1

/-! ### units -/
def uname (k : Nat) : List UInt8 := match k with
  | 0 => [104] | 1 => [109] | 2 => [115] | 3 => [109, 115] | 4 => [117, 115] | _ => [110, 115]
def usize (k : Nat) : Int := match k with
  | 0 => 3600000000000 | 1 => 60000000000 | 2 => 1000000000 | 3 => 1000000 | 4 => 1000 | _ => 1
theorem usize_pos (k : Nat) : 1 ≤ usize k := by unfold usize; split <;> omega
theorem usize_le (k : Nat) : usize k ≤ 3600000000000 := by unfold usize; split <;> omega

/-- The unit that stands at b, from number f on: its number, or 6; and how far one goes on. -/
def unitK (l : List UInt8) (b f : Nat) : Nat :=
  if f ≤ 3 ∧ l[b]? = some 109 ∧ l[b + 1]? = some 115 then 3
  else if f ≤ 0 ∧ l[b]? = some 104 then 0
  else if f ≤ 1 ∧ l[b]? = some 109 then 1
  else if f ≤ 2 ∧ l[b]? = some 115 then 2
  else if f ≤ 4 ∧ l[b]? = some 117 ∧ l[b + 1]? = some 115 then 4
  else if f ≤ 5 ∧ l[b]? = some 110 ∧ l[b + 1]? = some 115 then 5
  else 6
def unitFar (l : List UInt8) (b f : Nat) : Nat :=
  if (f ≤ 3 ∧ l[b]? = some 109) ∨ (f ≤ 4 ∧ l[b]? = some 117) ∨ (f ≤ 5 ∧ l[b]? = some 110) then b + 1 else b
def ulen (k : Nat) : Nat := (uname k).length

theorem unitFar_le {l : List UInt8} {b f : Nat} (h : b ≤ l.length) : unitFar l b f ≤ l.length := by
  unfold unitFar
  split
  · rename_i hc
    have : ∃ c, l[b]? = some c := by
      rcases hc with h | h | h
      · exact ⟨_, h.2⟩
      · exact ⟨_, h.2⟩
      · exact ⟨_, h.2⟩
    obtain ⟨c, hc⟩ := this
    rcases Nat.lt_or_ge b l.length with h | h
    · omega
    · rw [List.getElem?_eq_none h] at hc; cases hc
  · exact h
theorem get_lt {l : List UInt8} {b : Nat} {c : UInt8} (hc : l[b]? = some c) : b < l.length := by
  rcases Nat.lt_or_ge b l.length with h | h
  · exact h
  · rw [List.getElem?_eq_none h] at hc; cases hc
theorem unitK_le' {l : List UInt8} {b f k : Nat} (e : unitK l b f = k) (h : k ≠ 6) : f ≤ k ∧ k ≤ 5 ∧ b + ulen k ≤ l.length := by
  unfold unitK at e
  repeat' split at e
  all_goals (subst e; try contradiction)
  all_goals (rename_i hh; refine ⟨by omega, by omega, ?_⟩)
  all_goals (try have h1 := get_lt hh.2)
  all_goals (try have h1 := get_lt hh.2.2)
  all_goals (simp [ulen, uname]; omega)
theorem unitK_le {l : List UInt8} {b f : Nat} (h : unitK l b f ≠ 6) : f ≤ unitK l b f ∧ unitK l b f ≤ 5 ∧ b + ulen (unitK l b f) ≤ l.length := unitK_le' rfl h

/-! ### a span's text, read -/
def parseGo (l : List UInt8) : Nat → Nat → Nat → Int → Int × Int × Int
  | 0, at_, _, _ => (0, 20, (at_ : Int))
  | n + 1, at_, f, sum =>
    if f = 6 ∨ digEnd l at_ = at_ then (0, 20, (at_ : Int))
    else if l[at_]? = some 48 ∧ at_ + 1 < digEnd l at_ then (0, 20, (at_ : Int) + 1)
    else if unitK l (digEnd l at_) f = 6 then (0, 20, (unitFar l (digEnd l at_) f : Int))
    else if (2305843009213693952 - sum) / usize (unitK l (digEnd l at_) f) < accN 2305843009213693952 l at_ (digEnd l at_) then (0, 2, (at_ : Int))
    else if digEnd l at_ + ulen (unitK l (digEnd l at_) f) = l.length then (sum + accN 2305843009213693952 l at_ (digEnd l at_) * usize (unitK l (digEnd l at_) f), 0, 0)
    else parseGo l n (digEnd l at_ + ulen (unitK l (digEnd l at_) f)) (unitK l (digEnd l at_) f + 1) (sum + accN 2305843009213693952 l at_ (digEnd l at_) * usize (unitK l (digEnd l at_) f))
def parseSpan (l : List UInt8) : Int × Int × Int := parseGo l 7 0 0 0

theorem part_fits {sum n u : Int} (hu : 1 ≤ u) : (2305843009213693952 - sum) / u < n ↔ 2305843009213693952 < sum + n * u := by
  constructor
  · intro h
    apply Decidable.byContradiction
    intro g
    have : n ≤ (2305843009213693952 - sum) / u := Int.le_ediv_of_mul_le (by omega) (by omega)
    omega
  · intro h
    apply Int.ediv_lt_of_lt_mul (by omega)
    omega

/-- WHAT A SPAN's TEXT COMES TO: a span; or nothing, an error, a place in the text. -/
def SpanOut (l : List UInt8) (r : Int × Int × Int) : Prop :=
  (r.2.1 = 0 ∧ 0 ≤ r.1 ∧ r.1 ≤ 2305843009213693952 ∧ r.2.2 = 0) ∨ ((r.2.1 = 20 ∨ r.2.1 = 2) ∧ r.1 = 0 ∧ 0 ≤ r.2.2 ∧ r.2.2 ≤ l.length)

theorem parseGo_out (l : List UInt8) : ∀ (n at_ f : Nat) (sum : Int), at_ ≤ l.length → 0 ≤ sum → sum ≤ 2305843009213693952 → SpanOut l (parseGo l n at_ f sum)
  | 0, at_, f, sum, ha, h0, h1 => .inr ⟨.inl rfl, rfl, by simp only [parseGo]; omega, by simp only [parseGo]; omega⟩
  | n + 1, at_, f, sum, ha, h0, h1 => by
    have hd := digEnd_le l at_ ha
    have hg := digEnd_ge l at_
    unfold parseGo
    by_cases c1 : f = 6 ∨ digEnd l at_ = at_
    · rw [if_pos c1]; exact .inr ⟨.inl rfl, rfl, by simp only []; omega, by simp only []; omega⟩
    rw [if_neg c1]
    by_cases c2 : l[at_]? = some 48 ∧ at_ + 1 < digEnd l at_
    · rw [if_pos c2]; exact .inr ⟨.inl rfl, rfl, by simp only []; omega, by simp only []; omega⟩
    rw [if_neg c2]
    by_cases c3 : unitK l (digEnd l at_) f = 6
    · have := unitFar_le (l := l) (f := f) hd
      rw [if_pos c3]; exact .inr ⟨.inl rfl, rfl, by simp only []; omega, by simp only []; omega⟩
    rw [if_neg c3]
    by_cases c4 : (2305843009213693952 - sum) / usize (unitK l (digEnd l at_) f) < accN 2305843009213693952 l at_ (digEnd l at_)
    · rw [if_pos c4]; exact .inr ⟨.inr rfl, rfl, by simp only []; omega, by simp only []; omega⟩
    rw [if_neg c4]
    have hk := unitK_le c3
    have hu := usize_pos (unitK l (digEnd l at_) f)
    have ha := accN_bd 2305843009213693952 l at_ (by omega) (digEnd l at_) hg (Nat.le_refl _)
    have hm := Int.mul_nonneg ha.1 (by omega : 0 ≤ usize (unitK l (digEnd l at_) f))
    have hp := part_fits (sum := sum) (n := accN 2305843009213693952 l at_ (digEnd l at_)) hu
    have hfit : sum + accN 2305843009213693952 l at_ (digEnd l at_) * usize (unitK l (digEnd l at_) f) ≤ 2305843009213693952 := by
      apply Decidable.byContradiction
      intro g
      exact c4 (hp.mpr (by omega))
    by_cases c5 : digEnd l at_ + ulen (unitK l (digEnd l at_) f) = l.length
    · rw [if_pos c5]; exact .inl ⟨rfl, by simp only []; omega, by simp only []; omega, rfl⟩
    rw [if_neg c5]
    exact parseGo_out l n _ _ _ (by omega) (by omega) hfit

theorem parseSpan_out (l : List UInt8) : SpanOut l (parseSpan l) := parseGo_out l 7 0 0 0 (by omega) (by omega) (by omega)

/-! ### a span's text, written -/
def partsFrom (d : Nat) : Nat → Nat → List UInt8
  | 0, _ => []
  | n + 1, k => (if usize k ≤ (d : Int) then decDigits (d / (usize k).toNat) ++ uname k else []) ++ partsFrom (d % (usize k).toNat) n (k + 1)
def spanText (d : Nat) : List UInt8 := if d = 0 then [48, 115] else partsFrom d 6 0

/-! ### there and back -/
theorem digit_u8 (v : Nat) (h : v < 10) : isDig (UInt8.ofNat (48 + v)) = true ∧ dval (UInt8.ofNat (48 + v)) = v := by
  have e : (UInt8.ofNat (48 + v)).toNat = 48 + v := by simp; omega
  unfold isDig dval
  rw [e]
  constructor
  · simp; omega
  · omega
theorem decDigits_all (u : Nat) : ∀ c ∈ decDigits u, isDig c = true := by
  induction u using Nat.strongRecOn with
  | _ u ih =>
    rw [decDigits]
    split
    · intro c hc
      rw [List.mem_singleton] at hc
      rw [hc]; exact (digit_u8 u (by omega)).1
    · intro c hc
      rw [List.mem_append, List.mem_singleton] at hc
      rcases hc with hc | hc
      · exact ih (u / 10) (by omega) c hc
      · rw [hc]; exact (digit_u8 (u % 10) (by omega)).1
theorem decDigits_value (most : Int) (u : Nat) (h : (u : Int) ≤ most) : (decDigits u).foldl (stepN most) 0 = u := by
  induction u using Nat.strongRecOn with
  | _ u ih =>
    rw [decDigits]
    split
    · have := digit_u8 u (by omega)
      simp only [List.foldl_cons, List.foldl_nil]
      unfold stepN
      rw [this.2, if_neg (by omega)]
      omega
    · have := digit_u8 (u % 10) (by omega)
      rw [List.foldl_append, ih (u / 10) (by omega) (by omega)]
      simp only [List.foldl_cons, List.foldl_nil]
      unfold stepN
      rw [this.2, if_neg (by omega)]
      omega
theorem decDigits_head (u : Nat) : ∃ c t, decDigits u = c :: t ∧ isDig c = true ∧ (c = 48 → u = 0 ∧ t = []) := by
  induction u using Nat.strongRecOn with
  | _ u ih =>
    rw [decDigits]
    split
    · refine ⟨_, [], rfl, (digit_u8 u (by omega)).1, fun h => ⟨?_, rfl⟩⟩
      have := (digit_u8 u (by omega)).2
      rw [h] at this
      have e : dval 48 = 0 := by decide
      omega
    · obtain ⟨c, t, e, h1, h2⟩ := ih (u / 10) (by omega)
      refine ⟨c, t ++ [UInt8.ofNat (48 + u % 10)], by rw [e]; rfl, h1, fun h => ?_⟩
      have := h2 h
      omega

theorem takeWhile_app (p : UInt8 → Bool) : ∀ (a b : List UInt8), (∀ c ∈ a, p c = true) → (∀ c, b.head? = some c → p c = false) → (a ++ b).takeWhile p = a
  | [], [], _, _ => rfl
  | [], c :: t, _, h => by
    rw [List.nil_append, List.takeWhile_cons, h c rfl]; rfl
  | c :: t, b, ha, hb => by
    rw [List.cons_append, List.takeWhile_cons, ha c (by simp), if_pos rfl, takeWhile_app p t b (fun d hd => ha d (by simp [hd])) hb]

/-- a numeral at its place in a text -/
theorem numeral_at (pre rest : List UInt8) (u : Nat) (hr : ∀ c, rest.head? = some c → isDig c = false) :
    digEnd (pre ++ (decDigits u ++ rest)) pre.length = pre.length + (decDigits u).length ∧
    (∀ most : Int, (u : Int) ≤ most → accN most (pre ++ (decDigits u ++ rest)) pre.length (pre.length + (decDigits u).length) = u) := by
  have hdrop : (pre ++ (decDigits u ++ rest)).drop pre.length = decDigits u ++ rest := by simp
  constructor
  · unfold digEnd
    rw [hdrop, takeWhile_app isDig _ _ (decDigits_all u) hr]
  · intro most h
    unfold accN
    rw [hdrop, show pre.length + (decDigits u).length - pre.length = (decDigits u).length by omega, List.take_left']
    · exact decDigits_value most u h
    · rfl
end TM
