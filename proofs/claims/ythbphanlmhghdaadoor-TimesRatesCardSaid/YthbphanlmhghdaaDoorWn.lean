/- THE WALKS of the numbers in a text, and of a rate written. -/
import Derived.Test.YthbphanlmhghdaaDoorWm
namespace Go.Proofs.YthbphanlmhghdaaDoor
open Go.RowKit

theorem len_list (s : ByteArray) : s.data.toList.length = s.size := by rw [Array.length_toList]; rfl
theorem byte_at (s : ByteArray) (k : Nat) (h : k < s.size) : s.data.toList[k]? = some s[k] := by
  have hl : k < s.data.toList.length := by rw [len_list]; exact h
  rw [List.getElem?_eq_getElem hl]
  simp [ByteArray.getElem_eq_getElem_data]
theorem isDig_iff (c : UInt8) : TM.isDig c = true ↔ 48 ≤ (c.toNat : Int) ∧ (c.toNat : Int) ≤ 57 := by
  unfold TM.isDig; simp; omega
theorem isDig_not (c : UInt8) : TM.isDig c = false ↔ (c.toNat : Int) < 48 ∨ 57 < (c.toNat : Int) := by
  rw [← Bool.not_eq_true, isDig_iff]; omega
theorem is48 (c : UInt8) : c = 48 ↔ (c.toNat : Int) = 48 := by
  constructor
  · rintro rfl; rfl
  · intro h
    apply UInt8.toNat_inj.mp
    have : (48 : UInt8).toNat = 48 := rfl
    omega

def numT (l : List UInt8) (i : Nat) (most : Int) : Int × Nat := if l[i]? = some 48 then (0, i + 1) else (TM.accN most l i (TM.digEnd l i), TM.digEnd l i)

set_option maxRecDepth 100000 in
set_option maxHeartbeats 1000000 in
theorem number_zero (s : ByteArray) (i : Nat) (most : Int) (w : World) (hs : s.size ≤ 9223372036854775807) (hi : i < s.size) (hc : (s[i].toNat : Int) = 48) :
    Calls Tryd.prog 44 #[.string s, .int .i64 i, .int .i64 most] w fun e w' => e = .returned (.tuple #[.int .i64 0, .int .i64 ((i + 1 : Nat) : Int)]) ∧ w = w' := by
  go_enter Tryd.func44, Tryd.ntmps44
  go_wp2
  go_ret2
  exact ⟨ret_ii rfl (by omega), rfl⟩

set_option maxRecDepth 100000 in
set_option maxHeartbeats 1000000 in
theorem number_digits (s : ByteArray) (i : Nat) (most : Int) (w : World) (hs : s.size ≤ 9223372036854775807) (hi : i ≤ s.size) (hm : 9 ≤ most) (hm' : most ≤ 2305843009213693952) (h48 : ¬ s.data.toList[i]? = some 48) :
    Calls Tryd.prog 44 #[.string s, .int .i64 i, .int .i64 most] w fun e w' => e = .returned (.tuple #[.int .i64 (TM.accN most s.data.toList i (TM.digEnd s.data.toList i)), .int .i64 (TM.digEnd s.data.toList i)]) ∧ w = w' := by
  have hz : ∀ h : i < s.size, ((s[i].toNat : Int) == 48) = false := by
    intro h
    rw [beq_eq_false_iff_ne]
    intro g
    apply h48
    rw [byte_at s i h, (is48 _).mpr g]
  have hend : TM.digEnd s.data.toList i ≤ s.size := by
    have := TM.digEnd_le s.data.toList i (by rw [len_list]; exact hi)
    rw [len_list] at this
    exact this
  clear h48
  have start : i < s.size ∨ s.size ≤ i := by omega
  rcases start with hlt | hge
  · have hz' := hz hlt
    clear hz
    go_enter Tryd.func44, Tryd.ntmps44
    go_wp2
    go_loop [1, 8] (fun a b => ∃ j : Nat, i ≤ j ∧ j ≤ TM.digEnd s.data.toList i ∧ a = .int .i64 j ∧ b = .int .i64 (TM.accN most s.data.toList i j)) (fun a _ => s.size - (intOf a).toNat)
    case atStart => exact ⟨i, Nat.le_refl _, TM.digEnd_ge _ _, rfl, by rw [TM.accN_self]⟩
    case round =>
      obtain ⟨j, hij, hj, rfl, rfl⟩ := hrel
      have hjs := Nat.le_trans hj hend
      obtain ⟨n0, n1⟩ := TM.accN_bd most s.data.toList i hm j hij hj
      by_cases hlt' : j < s.size
      · have hb := byte_at s j hlt'
        obtain ⟨C, hC⟩ : ∃ C : Int, (s[j].toNat : Int) = C := ⟨_, rfl⟩
        by_cases hd : 48 ≤ C ∧ C ≤ 57
        · obtain ⟨d1, d2⟩ := hd
          have hdig : TM.isDig s[j] = true := (isDig_iff _).mpr (by omega)
          have hon := TM.dig_on hj hb hdig
          have hacc := TM.accN_succ most s.data.toList i j _ hij hb
          have hdv : TM.dval s[j] = C - 48 := by unfold TM.dval; omega
          unfold TM.stepN at hacc
          rw [hdv] at hacc
          have HA := Lib.hid hacc
          clear hacc hdig hb hdv
          by_cases hgt : (most - (C - 48)) / 10 < TM.accN most s.data.toList i j
          · go_wp2
            go_round
            case rel => exact ⟨j + 1, by omega, by omega, by go_num, by rw [HA.out, if_pos hgt]⟩
            case measure => simp only [intOf]; omega
          · go_wp2
            go_round
            case rel => exact ⟨j + 1, by omega, by omega, by go_num, by rw [HA.out, if_neg hgt]; congr 1; omega⟩
            case measure => simp only [intOf]; omega
        · have hnd : TM.isDig s[j] = false := (isDig_not _).mpr (by omega)
          have he := Lib.hid (TM.dig_end hij hj (.inr ⟨_, hb, hnd⟩))
          clear hb hnd
          have hd' : C < 48 ∨ 57 < C := by omega
          clear hd
          rcases hd' with d1 | d1
          · go_wp2
            go_ret2
            rw [← he.out]
            exact ⟨rfl, rfl⟩
          · go_wp2
            go_ret2
            rw [← he.out]
            exact ⟨rfl, rfl⟩
      · have he := Lib.hid (TM.dig_end hij hj (.inl (by rw [len_list]; omega)))
        go_wp2
        go_ret2
        rw [← he.out]
        exact ⟨rfl, rfl⟩
  · clear hz
    go_enter Tryd.func44, Tryd.ntmps44
    go_wp2
    go_loop [1, 8] (fun a b => ∃ j : Nat, i ≤ j ∧ j ≤ TM.digEnd s.data.toList i ∧ a = .int .i64 j ∧ b = .int .i64 (TM.accN most s.data.toList i j)) (fun a _ => s.size - (intOf a).toNat)
    case atStart => exact ⟨i, Nat.le_refl _, TM.digEnd_ge _ _, rfl, by rw [TM.accN_self]⟩
    case round =>
      obtain ⟨j, hij, hj, rfl, rfl⟩ := hrel
      have hjs := Nat.le_trans hj hend
      obtain ⟨n0, n1⟩ := TM.accN_bd most s.data.toList i hm j hij hj
      have he := Lib.hid (TM.dig_end hij hj (.inl (by rw [len_list]; omega)))
      have hlt : ¬ j < s.size := by omega
      go_wp2
      go_ret2
      rw [← he.out]
      exact ⟨rfl, rfl⟩

theorem number_any (s : ByteArray) (i : Nat) (most : Int) (w : World) (hs : s.size ≤ 9223372036854775807) (hi : i ≤ s.size) (hm : 9 ≤ most) (hm' : most ≤ 2305843009213693952) :
    Calls Tryd.prog 44 #[.string s, .int .i64 i, .int .i64 most] w fun e w' => e = .returned (.tuple #[.int .i64 (numT s.data.toList i most).1, .int .i64 (numT s.data.toList i most).2]) ∧ w = w' := by
  by_cases h : s.data.toList[i]? = some 48
  · rw [numT, if_pos h]
    have hlt : i < s.size := by have := TM.get_lt h; rw [len_list] at this; exact this
    rw [byte_at s i hlt] at h
    exact number_zero s i most w hs hlt ((is48 _).mp (Option.some.inj h))
  · rw [numT, if_neg h]
    exact number_digits s i most w hs hi hm hm' h
end Go.Proofs.YthbphanlmhghdaaDoor
