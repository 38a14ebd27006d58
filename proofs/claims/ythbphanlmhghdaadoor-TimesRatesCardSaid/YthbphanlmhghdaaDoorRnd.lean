/- Plain facts: a span's text, read a part further. -/
import Derived.Test.YthbphanlmhghdaaDoorCom
namespace TM

section
variable {l : List UInt8} {m a f : Nat} {sum : Int}
theorem pg1 (h : f = 6 ∨ digEnd l a = a) : parseGo l (m + 1) a f sum = (0, 20, (a : Int)) := by rw [parseGo, if_pos h]
theorem pg2 (h : ¬ (f = 6 ∨ digEnd l a = a)) (h2 : l[a]? = some 48 ∧ a + 1 < digEnd l a) : parseGo l (m + 1) a f sum = (0, 20, (a : Int) + 1) := by rw [parseGo, if_neg h, if_pos h2]
theorem pg3 (h : ¬ (f = 6 ∨ digEnd l a = a)) (h2 : ¬ (l[a]? = some 48 ∧ a + 1 < digEnd l a)) (h3 : unitK l (digEnd l a) f = 6) : parseGo l (m + 1) a f sum = (0, 20, (unitFar l (digEnd l a) f : Int)) := by
  rw [parseGo, if_neg h, if_neg h2, if_pos h3]
theorem pg4 (h : ¬ (f = 6 ∨ digEnd l a = a)) (h2 : ¬ (l[a]? = some 48 ∧ a + 1 < digEnd l a)) (h3 : unitK l (digEnd l a) f ≠ 6)
    (h4 : 2305843009213693952 < sum + accN 2305843009213693952 l a (digEnd l a) * usize (unitK l (digEnd l a) f)) : parseGo l (m + 1) a f sum = (0, 2, (a : Int)) := by
  rw [parseGo, if_neg h, if_neg h2, if_neg h3, if_pos ((part_fits (usize_pos _)).mpr h4)]
theorem pg5 (h : ¬ (f = 6 ∨ digEnd l a = a)) (h2 : ¬ (l[a]? = some 48 ∧ a + 1 < digEnd l a)) (h3 : unitK l (digEnd l a) f ≠ 6)
    (h4 : ¬ 2305843009213693952 < sum + accN 2305843009213693952 l a (digEnd l a) * usize (unitK l (digEnd l a) f)) (h5 : digEnd l a + ulen (unitK l (digEnd l a) f) = l.length) :
    parseGo l (m + 1) a f sum = (sum + accN 2305843009213693952 l a (digEnd l a) * usize (unitK l (digEnd l a) f), 0, 0) := by
  rw [parseGo, if_neg h, if_neg h2, if_neg h3, if_neg (fun g => h4 ((part_fits (usize_pos _)).mp g)), if_pos h5]
theorem pg6 (h : ¬ (f = 6 ∨ digEnd l a = a)) (h2 : ¬ (l[a]? = some 48 ∧ a + 1 < digEnd l a)) (h3 : unitK l (digEnd l a) f ≠ 6)
    (h4 : ¬ 2305843009213693952 < sum + accN 2305843009213693952 l a (digEnd l a) * usize (unitK l (digEnd l a) f)) (h5 : ¬ digEnd l a + ulen (unitK l (digEnd l a) f) = l.length) :
    parseGo l (m + 1) a f sum = parseGo l m (digEnd l a + ulen (unitK l (digEnd l a) f)) (unitK l (digEnd l a) f + 1) (sum + accN 2305843009213693952 l a (digEnd l a) * usize (unitK l (digEnd l a) f)) := by
  rw [parseGo, if_neg h, if_neg h2, if_neg h3, if_neg (fun g => h4 ((part_fits (usize_pos _)).mp g)), if_neg h5]
end

/-- behind a nought with a digit no unit stands -/
theorem unit_digit {l : List UInt8} {b f : Nat} {c : UInt8} (hc : l[b]? = some c) (hd : isDig c = true) : unitK l b f = 6 ∧ unitFar l b f = b := by
  have n1 : c ≠ 104 := by rintro rfl; revert hd; decide
  have n2 : c ≠ 109 := by rintro rfl; revert hd; decide
  have n3 : c ≠ 115 := by rintro rfl; revert hd; decide
  have n4 : c ≠ 117 := by rintro rfl; revert hd; decide
  have n5 : c ≠ 110 := by rintro rfl; revert hd; decide
  unfold unitK unitFar
  rw [hc]
  simp [n1, n2, n3, n4, n5]
theorem zero_digit {l : List UInt8} {a : Nat} (h : l[a]? = some 48) : a < digEnd l a := dig_on (digEnd_ge l a) h (by decide)
theorem zero_value {l : List UInt8} {a : Nat} (h : l[a]? = some 48) (h1 : digEnd l a = a + 1) (most : Int) (hm : 9 ≤ most) : accN most l a (digEnd l a) = 0 := by
  rw [h1, accN_succ most l a a 48 (Nat.le_refl _) h, accN_self]
  have : dval 48 = 0 := by decide
  unfold stepN
  rw [this, if_neg (by omega)]
  omega
theorem ulen_pos (k : Nat) : 1 ≤ ulen k ∧ ulen k ≤ 2 := by unfold ulen uname; split <;> simp
theorem usize_int (k : Nat) : 1 ≤ usize k ∧ usize k ≤ 3600000000000 := ⟨usize_pos k, usize_le k⟩
end TM
