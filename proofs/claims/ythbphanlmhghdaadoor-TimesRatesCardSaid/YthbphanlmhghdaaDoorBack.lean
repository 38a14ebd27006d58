import Derived.Test.YthbphanlmhghdaaDoorTxt
namespace TM
open Go.Lib

theorem unit_at (pre rest : List UInt8) (k f : Nat) (hf : f ≤ k) (hk : k ≤ 5) (hr : ∀ c, rest.head? = some c → isDig c = true) :
    unitK (pre ++ (uname k ++ rest)) pre.length f = k ∧ (∀ c, (uname k ++ rest).head? = some c → isDig c = false) := by
  have h0 : (pre ++ (uname k ++ rest))[pre.length]? = (uname k ++ rest)[0]? := by
    rw [List.getElem?_append_right (Nat.le_refl _), Nat.sub_self]
  have h1 : (pre ++ (uname k ++ rest))[pre.length + 1]? = (uname k ++ rest)[1]? := by
    rw [List.getElem?_append_right (by omega)]; congr 1; omega
  have hx : rest[0]? ≠ some 115 := by
    intro h
    have := hr 115 (by rw [List.head?_eq_getElem?]; exact h)
    revert this
    decide
  unfold unitK
  rw [h0, h1]
  have : k = 0 ∨ k = 1 ∨ k = 2 ∨ k = 3 ∨ k = 4 ∨ k = 5 := by omega
  rcases this with rfl | rfl | rfl | rfl | rfl | rfl
  all_goals simp [uname, hx]
  all_goals first | decide | (refine ⟨by omega, by decide⟩)

theorem partsFrom_head (d : Nat) : ∀ (n k : Nat) (c : UInt8), (partsFrom d n k).head? = some c → isDig c = true := by
  intro n
  induction n generalizing d with
  | zero => intro k c h; simp [partsFrom] at h
  | succ n ih =>
    intro k c h
    unfold partsFrom at h
    split at h
    · obtain ⟨a, t, e, h1, _⟩ := decDigits_head (d / (usize k).toNat)
      rw [e] at h
      simp at h
      rw [← h]; exact h1
    · exact ih _ _ _ (by simpa using h)

theorem partsFrom_zero : ∀ (n k : Nat), partsFrom 0 n k = []
  | 0, _ => rfl
  | n + 1, k => by
    have := usize_pos k
    unfold partsFrom
    rw [if_neg (by omega), Nat.zero_mod, partsFrom_zero n]
    rfl

theorem usize_5 : usize 5 = 1 := rfl

theorem parse_parts : ∀ (n k m f d : Nat) (sum : Int) (pre : List UInt8), n + k = 6 → 1 ≤ n → 1 ≤ d → f ≤ k → 7 ≤ m + f → 0 ≤ sum → sum + d ≤ 2305843009213693952 →
    parseGo (pre ++ partsFrom d n k) m pre.length f sum = (sum + d, 0, 0)
  | 0, k, m, f, d, sum, pre, hk, hn, hd, hf, hm, h0, h1 => by omega
  | n + 1, k, m, f, d, sum, pre, hk, _, hd, hf, hm, h0, h1 => by
    have hu := usize_pos k
    by_cases hc : usize k ≤ (d : Int)
    · obtain ⟨z, hz⟩ : ∃ z : Nat, z = (usize k).toNat := ⟨_, rfl⟩
      have hzu : (z : Int) = usize k := by omega
      have hz1 : 1 ≤ z := by omega
      obtain ⟨m, rfl⟩ : ∃ m', m = m' + 1 := ⟨m - 1, by omega⟩
      unfold partsFrom
      rw [if_pos hc, ← hz]
      have hhead := partsFrom_head (d % z) n (k + 1)
      have e0 : pre ++ (decDigits (d / z) ++ uname k ++ partsFrom (d % z) n (k + 1)) = pre ++ (decDigits (d / z) ++ (uname k ++ partsFrom (d % z) n (k + 1))) := by rw [List.append_assoc]
      rw [e0]
      have e1 : pre ++ (decDigits (d / z) ++ (uname k ++ partsFrom (d % z) n (k + 1))) = (pre ++ decDigits (d / z)) ++ (uname k ++ partsFrom (d % z) n (k + 1)) := by rw [List.append_assoc]
      obtain ⟨hK, hN⟩ := unit_at (pre ++ decDigits (d / z)) (partsFrom (d % z) n (k + 1)) k f hf (by omega) hhead
      obtain ⟨hE, hA⟩ := numeral_at pre (uname k ++ partsFrom (d % z) n (k + 1)) (d / z) hN
      have hq : d / z * z ≤ d := Nat.div_mul_le_self d z
      have hq1 : 1 ≤ d / z := Nat.div_pos (by omega) hz1
      have hqd : d / z ≤ d := Nat.div_le_self d z
      have hV := hA 2305843009213693952 (by omega)
      obtain ⟨c, t, he, hcd, h48⟩ := decDigits_head (d / z)
      have hlen : 1 ≤ (decDigits (d / z)).length := by rw [he]; simp
      have hget : (pre ++ (decDigits (d / z) ++ (uname k ++ partsFrom (d % z) n (k + 1))))[pre.length]? = some c := by
        rw [List.getElem?_append_right (Nat.le_refl _), Nat.sub_self, he]; rfl
      have hL : (pre ++ (decDigits (d / z) ++ (uname k ++ partsFrom (d % z) n (k + 1)))).length = pre.length + (decDigits (d / z)).length + ulen k + (partsFrom (d % z) n (k + 1)).length := by
        simp [ulen]; omega
      rw [e1] at hE hV hget hL ⊢
      rw [show pre.length + (decDigits (d / z)).length = (pre ++ decDigits (d / z)).length by simp] at hE hV hL
      unfold parseGo
      have hp1 : (pre ++ decDigits (d / z)).length = pre.length + (decDigits (d / z)).length := by simp
      have hmul : (((d / z : Nat) : Int)) * usize k = ((d / z * z : Nat) : Int) := by rw [← hzu]; simp
      have hsz : ((d / z * z : Nat) : Int) ≤ d := by omega
      rw [hE, hV, hK, if_neg (by omega), if_neg (by rintro ⟨h, _⟩; rw [hget] at h; injection h with h; have := h48 h; omega), if_neg (by omega),
        if_neg (by rw [part_fits hu, hmul]; omega), hmul]
      have hdm : d / z * z + d % z = d := by rw [Nat.mul_comm]; exact Nat.div_add_mod d z
      by_cases hr : d % z = 0
      · rw [if_pos (by rw [hL, hr, partsFrom_zero]; simp)]
        have : d / z * z = d := by omega
        rw [this]
      · have hn : n ≠ 0 := by
          rintro rfl
          have : k = 5 := by omega
          subst this
          rw [usize_5] at hzu
          have : z = 1 := by omega
          subst this
          exact hr (Nat.mod_one d)
        have hpl : (partsFrom (d % z) n (k + 1)).length ≠ 0 := by
          intro h
          have hnil : partsFrom (d % z) n (k + 1) = [] := List.eq_nil_of_length_eq_zero h
          have hih := parse_parts n (k + 1) (m + 1) (k + 1) (d % z) 0 [] (by omega) (by omega) (by omega) (by omega) (by omega) (by omega) (by omega)
          rw [hnil] at hih
          unfold parseGo at hih
          rw [if_pos (.inr (by simp [digEnd]))] at hih
          simp at hih
        rw [if_neg (by omega)]
        have hih := parse_parts n (k + 1) m (k + 1) (d % z) (sum + ((d / z * z : Nat) : Int)) ((pre ++ decDigits (d / z)) ++ uname k) (by omega) (by omega) (by omega) (by omega) (by omega) (by omega) (by omega)
        rw [show ((pre ++ decDigits (d / z)) ++ uname k).length = (pre ++ decDigits (d / z)).length + ulen k by simp [ulen]; omega, List.append_assoc] at hih
        rw [hih]
        rw [show sum + ((d / z * z : Nat) : Int) + ((d % z : Nat) : Int) = sum + (d : Int) by omega]
    · unfold partsFrom
      rw [if_neg hc, List.nil_append, Nat.mod_eq_of_lt (by omega)]
      have : n ≠ 0 := by
        rintro rfl
        have : k = 5 := by omega
        subst this
        rw [usize_5] at hc
        omega
      exact parse_parts n (k + 1) m f d sum pre (by omega) (by omega) hd (by omega) hm h0 h1

theorem span_back (d : Nat) (h : (d : Int) ≤ 2305843009213693952) : parseSpan (spanText d) = ((d : Int), 0, 0) := by
  unfold spanText
  split
  · rename_i h0
    subst h0
    decide +kernel
  · have := parse_parts 6 0 7 0 d 0 [] (by omega) (by omega) (by omega) (by omega) (by omega) (by omega) (by omega)
    rw [List.nil_append, Int.zero_add] at this
    exact this
/-! ### rates -/
def parseRate (l : List UInt8) : (Int × Int) × Int × Int :=
  if digEnd l 0 = 0 then ((0, 0), 20, 0)
  else if l[0]? = some 48 ∧ 1 < digEnd l 0 then ((0, 0), 20, 1)
  else if 1099511627776 < accN 1099511627776 l 0 (digEnd l 0) then ((0, 0), 2, 0)
  else if l[digEnd l 0]? ≠ some 47 then ((0, 0), 20, (digEnd l 0 : Int))
  else if (parseSpan (l.drop (digEnd l 0 + 1))).2.1 ≠ 0 then ((0, 0), (parseSpan (l.drop (digEnd l 0 + 1))).2.1, (digEnd l 0 : Int) + 1 + (parseSpan (l.drop (digEnd l 0 + 1))).2.2)
  else if (parseSpan (l.drop (digEnd l 0 + 1))).1 = 0 then ((0, 0), 20, (l.length : Int))
  else ((accN 1099511627776 l 0 (digEnd l 0), (parseSpan (l.drop (digEnd l 0 + 1))).1), 0, 0)

def RateOut (l : List UInt8) (r : (Int × Int) × Int × Int) : Prop :=
  (r.2.1 = 0 ∧ 0 ≤ r.1.1 ∧ r.1.1 ≤ 1099511627776 ∧ 1 ≤ r.1.2 ∧ r.1.2 ≤ 2305843009213693952 ∧ r.2.2 = 0) ∨ ((r.2.1 = 20 ∨ r.2.1 = 2) ∧ r.1 = (0, 0) ∧ 0 ≤ r.2.2 ∧ r.2.2 ≤ l.length)

theorem parseRate_out (l : List UInt8) : RateOut l (parseRate l) := by
  have hd := digEnd_le l 0 (by omega)
  unfold parseRate
  by_cases c1 : digEnd l 0 = 0
  · rw [if_pos c1]; exact .inr ⟨.inl rfl, rfl, by simp only []; omega, by simp only []; omega⟩
  rw [if_neg c1]
  by_cases c2 : l[0]? = some 48 ∧ 1 < digEnd l 0
  · rw [if_pos c2]; exact .inr ⟨.inl rfl, rfl, by simp only []; omega, by simp only []; omega⟩
  rw [if_neg c2]
  by_cases c3 : 1099511627776 < accN 1099511627776 l 0 (digEnd l 0)
  · rw [if_pos c3]; exact .inr ⟨.inr rfl, rfl, by simp only []; omega, by simp only []; omega⟩
  rw [if_neg c3]
  by_cases c4 : l[digEnd l 0]? ≠ some 47
  · rw [if_pos c4]; exact .inr ⟨.inl rfl, rfl, by simp only []; omega, by simp only []; omega⟩
  rw [if_neg c4]
  have hlt := get_lt (Decidable.not_not.mp c4)
  have hs := parseSpan_out (l.drop (digEnd l 0 + 1))
  generalize parseSpan (l.drop (digEnd l 0 + 1)) = r at *
  unfold SpanOut at hs
  rw [List.length_drop] at hs
  have ha := accN_bd 1099511627776 l 0 (by omega) (digEnd l 0) (by omega) (Nat.le_refl _)
  by_cases c5 : r.2.1 ≠ 0
  · rw [if_pos c5]
    rcases hs with hs | hs
    · exact absurd hs.1 c5
    · exact .inr ⟨hs.1, rfl, by simp only []; omega, by simp only []; omega⟩
  rw [if_neg c5]
  by_cases c6 : r.1 = 0
  · rw [if_pos c6]; exact .inr ⟨.inl rfl, rfl, by simp only []; omega, by simp only []; omega⟩
  rw [if_neg c6]
  rcases hs with hs | hs
  · exact .inl ⟨rfl, ha.1, by simp only []; omega, by simp only []; omega, by simp only []; omega, rfl⟩
  · omega

theorem rate_back (n d : Nat) (hn : (n : Int) ≤ 1099511627776) (h1 : 1 ≤ d) (h : (d : Int) ≤ 2305843009213693952) :
    parseRate (decDigits n ++ (47 :: spanText d)) = (((n : Int), (d : Int)), 0, 0) := by
  obtain ⟨hE, hA⟩ := numeral_at [] (47 :: spanText d) n (by intro c h; simp at h; rw [← h]; decide)
  rw [List.nil_append] at hE hA
  have hV := hA 1099511627776 hn
  rw [show ([] : List UInt8).length = 0 from rfl, Nat.zero_add] at hE hV
  obtain ⟨c, t, he, hcd, h48⟩ := decDigits_head n
  have hlen : 1 ≤ (decDigits n).length := by rw [he]; simp
  have hget : (decDigits n ++ (47 :: spanText d))[0]? = some c := by rw [he]; rfl
  have hslash : (decDigits n ++ (47 :: spanText d))[(decDigits n).length]? = some 47 := by
    rw [List.getElem?_append_right (Nat.le_refl _), Nat.sub_self]; rfl
  have hdrop : (decDigits n ++ (47 :: spanText d)).drop ((decDigits n).length + 1) = spanText d := by
    rw [← List.drop_drop, List.drop_left' rfl]; rfl
  have hb := span_back d h
  unfold parseRate
  rw [hE, hV, hdrop, hb, if_neg (by omega), if_neg (by
    rintro ⟨h0, h2⟩
    rw [hget] at h0
    injection h0 with h0
    have := (h48 h0).2
    rw [he, this] at h2
    simp at h2), if_neg (by omega), if_neg (by rw [hslash]; simp), if_neg (by simp), if_neg (by simp; omega)]
end TM
