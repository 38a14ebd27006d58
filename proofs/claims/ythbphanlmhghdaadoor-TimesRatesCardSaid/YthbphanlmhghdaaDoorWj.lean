/- THE WALKS of digits, of a unit's name and size. -/
import Derived.Test.YthbphanlmhghdaaDoorWi
import Derived.Test.YthbphanlmhghdaaDoorBack
import Derived.Lib.ItoaLen
import Derived.Laws.BytesArg
namespace Go.Proofs.YthbphanlmhghdaaDoor
open Go.RowKit

/-- what a number's digits come to, a digit further -/
theorem digits_more (k : Nat) (acc : List UInt8) (h : ¬ k < 10) : Lib.decDigits k ++ acc = Lib.decDigits (k / 10) ++ (UInt8.ofNat (48 + k % 10) :: acc) := by
  rw [Lib.decDigits, dif_neg h, List.append_assoc]; rfl
theorem one_byte (wr : World) (v : Int) : (convert 53 9 (.slice (some ⟨wr.heap.size, 0, none⟩) 1 1)).run Tryd.prog (wr.alloc (.cells #[.int .u8 v] 5)) = .ok (.string ⟨#[UInt8.ofNat v.toNat]⟩) (wr.alloc (.cells #[.int .u8 v] 5)) := by
  have h := run_convert_bytes_arg (P := Tryd.prog) (wr.alloc (.cells #[.int .u8 v] 5)) 53 5 Tryd.underlying53 Tryd.underlying5 wr.heap.size 0 1 1 [v] rfl (by
    intro i hi
    obtain rfl : i = 0 := by omega
    simp [go_sem]) 9 Tryd.underlying9
  rw [h]
  rfl
theorem digits_short (k n : Nat) (acc : List UInt8) (hn : (n : Int) ≤ 9223372036854775807) (h : Lib.decDigits k ++ acc = Lib.decDigits n) : acc.length ≤ 20 := by
  have h1 := congrArg List.length h
  rw [List.length_append, Lib.decDigits_length n] at h1
  have := Lib.nDigits_le20 n (by omega)
  omega
theorem cat (a b : List UInt8) : (⟨a.toArray⟩ : ByteArray) ++ ⟨b.toArray⟩ = ⟨(a ++ b).toArray⟩ := by
  apply ByteArray.ext
  simp [ByteArray.data_append]
theorem digits_last (k : Nat) (acc : List UInt8) (h : k < 10) : Lib.decDigits k ++ acc = UInt8.ofNat (48 + k) :: acc := by
  rw [Lib.decDigits, dif_pos h]; rfl

set_option maxRecDepth 100000 in
set_option maxHeartbeats 400000 in
theorem digits_any (n : Nat) (w : World) (hn : (n : Int) ≤ 9223372036854775807) :
    Calls Tryd.prog 43 #[.int .i64 n] w fun e w' => e = .returned (.string ⟨(Lib.decDigits n).toArray⟩) ∧ Below w.heap.size w w' := by
  go_enter Tryd.func43, Tryd.ntmps43
  go_wp2
  go_loopw [0, 3] (fun a b wr => ∃ (k : Nat) (acc : List UInt8), k ≤ n ∧ a = .int .i64 k ∧ b = .string ⟨acc.toArray⟩ ∧ Lib.decDigits k ++ acc = Lib.decDigits n ∧ Below w.heap.size w wr) (fun a _ _ => (intOf a).toNat)
  case atStart => exact ⟨n, [], by omega, rfl, rfl, List.append_nil _, Below.refl _ _⟩
  case round =>
    obtain ⟨k, acc, hk, rfl, rfl, he, hB⟩ := hrel
    have HE := Lib.hid he
    have hs := digits_short k n acc hn he
    obtain ⟨D, hD⟩ : ∃ D, D = UInt8.ofNat (48 + k % 10) := ⟨_, rfl⟩
    have hconv : (convert 53 9 (.slice (some ⟨wr.heap.size, 0, none⟩) 1 1)).run Tryd.prog (wr.alloc (.cells #[.int .u8 (48 + (k : Int) % 10)] 5)) = .ok (.string ⟨#[D]⟩) (wr.alloc (.cells #[.int .u8 (48 + (k : Int) % 10)] 5)) := by
      rw [one_byte wr (48 + (k : Int) % 10), hD, show (48 + (k : Int) % 10).toNat = 48 + k % 10 by omega]
    have HD := Lib.hid hD
    clear he hD
    by_cases h0 : k < 10
    · go_wp2
      go_ret
      refine ⟨?_, hB.alloc hB.size _⟩
      rw [cat [D] acc, ← HE.out, digits_last k acc h0, HD.out, Nat.mod_eq_of_lt h0]
      rfl
    · go_wp2
      go_roundw
      case rel =>
        refine ⟨k / 10, D :: acc, by omega, by go_num, ?_, ?_, hB.alloc hB.size _⟩
        · rw [cat [D] acc]; rfl
        · rw [← HE.out, digits_more k acc h0, HD.out]
      case measure => simp only [intOf]; omega
end Go.Proofs.YthbphanlmhghdaaDoor
