/- THE WALK of the document's number in a text. -/
import Derived.Test.YthbphanlmhghdaaDoorWn
namespace Go.Proofs.YthbphanlmhghdaaDoor
open Go.RowKit

/-- number, place behind, place of the fault or -1 -/
def numR (l : List UInt8) (i : Nat) (most : Int) : Int × Int × Int :=
  if TM.digEnd l i = i then (0, i, i) else if l[i]? = some 48 ∧ i + 1 < TM.digEnd l i then (0, (i : Int) + 1, (i : Int) + 1) else (TM.accN most l i (TM.digEnd l i), TM.digEnd l i, -1)
theorem ret_iii {k m n : IntKind} {a b c d e f : Int} (h : a = b) (h' : c = d) (h'' : e = f) : Ending.returned (.tuple #[.int k a, .int m c, .int n e]) = Ending.returned (.tuple #[.int k b, .int m d, .int n f]) := by rw [h, h', h'']

set_option maxRecDepth 100000 in
set_option maxHeartbeats 1000000 in
theorem refNumber_none (s : ByteArray) (i : Nat) (most : Int) (w : World) (h : TM.digEnd s.data.toList i = i) :
    Calls Tryd.prog 47 #[.string s, .int .i64 i, .int .i64 most] w fun e w' => e = .returned (.tuple #[.int .i64 0, .int .i64 i, .int .i64 i]) ∧ w = w' := by
  by_cases hlt : i < s.size
  · have hd := TM.dig_stop (l := s.data.toList) (i := i) (c := s[i]) (by rw [h, byte_at s i hlt])
    have hd' := (isDig_not _).mp hd
    clear hd h
    obtain ⟨C, hC⟩ : ∃ C : Int, (s[i].toNat : Int) = C := ⟨_, rfl⟩
    rcases hd' with d | d
    · go_enter Tryd.func47, Tryd.ntmps47
      go_wp2
      go_ret3
      exact ⟨rfl, rfl⟩
    · go_enter Tryd.func47, Tryd.ntmps47
      go_wp2
      go_ret3
      exact ⟨rfl, rfl⟩
  · clear h
    go_enter Tryd.func47, Tryd.ntmps47
    go_wp2
    go_ret3
    exact ⟨rfl, rfl⟩

set_option maxRecDepth 100000 in
set_option maxHeartbeats 1000000 in
theorem refNumber_lead (s : ByteArray) (i : Nat) (most : Int) (w : World) (hs : s.size ≤ 9223372036854775807) (hi : i ≤ s.size) (hm : 9 ≤ most) (hm' : most ≤ 2305843009213693952) (h48 : s.data.toList[i]? = some 48) (hpos1 : i + 1 < TM.digEnd s.data.toList i) :
    Calls Tryd.prog 47 #[.string s, .int .i64 i, .int .i64 most] w fun e w' => e = .returned (.tuple #[.int .i64 0, .int .i64 ((i : Int) + 1), .int .i64 ((i : Int) + 1)]) ∧ w = w' := by
  have hpos : i < TM.digEnd s.data.toList i := by omega
  obtain ⟨c0, hc0, hdig0⟩ := TM.dig_in (Nat.le_refl i) hpos
  have hend : TM.digEnd s.data.toList i ≤ s.size := by
    have := TM.digEnd_le s.data.toList i (by rw [len_list]; exact hi)
    rw [len_list] at this
    exact this
  have hlt0 : i < s.size := by omega
  rw [byte_at s i hlt0] at hc0
  obtain rfl := Option.some.inj hc0
  obtain ⟨z0, z1⟩ := (isDig_iff _).mp hdig0
  clear hc0 hdig0
  obtain ⟨Z, hZ⟩ : ∃ Z : Int, (s[i].toNat : Int) = Z := ⟨_, rfl⟩
  have hz48 : Z = 48 := by
    rw [byte_at s i hlt0] at h48
    rw [← hZ]
    exact (is48 _).mp (Option.some.inj h48)
  subst hz48
  obtain ⟨c1, hc1, hdig1⟩ := TM.dig_in (Nat.le_succ i) hpos1
  have hlt1 : i + 1 < s.size := by omega
  rw [byte_at s (i + 1) hlt1] at hc1
  obtain rfl := Option.some.inj hc1
  obtain ⟨y0, y1⟩ := (isDig_iff _).mp hdig1
  clear hc1 hdig1 h48 hpos hpos1 hend
  obtain ⟨Y, hY⟩ : ∃ Y : Int, (s[i + 1].toNat : Int) = Y := ⟨_, rfl⟩
  go_enter Tryd.func47, Tryd.ntmps47
  go_wp2
  go_loop [9, 10] (fun a b => (a = .int .i64 0 ∧ b = .int .i64 i) ∨ (a = .int .i64 0 ∧ b = .int .i64 ((i : Int) + 1))) (fun _ b => (i : Nat) + 1 - (intOf b).toNat)
  case atStart => exact .inl ⟨rfl, rfl⟩
  case round =>
    rcases hrel with ⟨rfl, rfl⟩ | ⟨rfl, rfl⟩
    · go_wp2
      go_round
      case rel => exact ⟨_, _, _, _, _, .inr ⟨rfl, rfl⟩, rfl, rfl, rfl, rfl, rfl⟩
      case measure => simp only [intOf]; omega
    · go_wp2
      go_ret3
      exact ⟨rfl, rfl⟩

set_option maxRecDepth 100000 in
set_option maxHeartbeats 2000000 in
theorem refNumber_plain (s : ByteArray) (i : Nat) (most : Int) (w : World) (hs : s.size ≤ 9223372036854775807) (hi : i ≤ s.size) (hm : 9 ≤ most) (hm' : most ≤ 2305843009213693952) (hpos : i < TM.digEnd s.data.toList i) (h48 : ¬ s.data.toList[i]? = some 48) :
    Calls Tryd.prog 47 #[.string s, .int .i64 i, .int .i64 most] w fun e w' => e = .returned (.tuple #[.int .i64 (TM.accN most s.data.toList i (TM.digEnd s.data.toList i)), .int .i64 (TM.digEnd s.data.toList i), .int .i64 (-1)]) ∧ w = w' := by
  obtain ⟨c0, hc0, hdig0⟩ := TM.dig_in (Nat.le_refl i) hpos
  have hend : TM.digEnd s.data.toList i ≤ s.size := by
    have := TM.digEnd_le s.data.toList i (by rw [len_list]; exact hi)
    rw [len_list] at this
    exact this
  have hlt0 : i < s.size := by omega
  rw [byte_at s i hlt0] at hc0
  obtain rfl := Option.some.inj hc0
  obtain ⟨z0, z1⟩ := (isDig_iff _).mp hdig0
  clear hc0 hdig0
  obtain ⟨Z, hZ⟩ : ∃ Z : Int, (s[i].toNat : Int) = Z := ⟨_, rfl⟩
  have h48' : ¬ Z = 48 := by
    intro g
    apply h48
    rw [byte_at s i hlt0, (is48 _).mpr (hZ.trans g)]
  clear h48
  go_enter Tryd.func47, Tryd.ntmps47
  go_wp2
  go_loop [9, 10] (fun a b => ∃ j : Nat, i ≤ j ∧ j ≤ TM.digEnd s.data.toList i ∧ a = .int .i64 (TM.accN most s.data.toList i j) ∧ b = .int .i64 j) (fun _ b => s.size - (intOf b).toNat)
  case atStart => exact ⟨i, Nat.le_refl _, TM.digEnd_ge _ _, by rw [TM.accN_self], rfl⟩
  case round =>
    obtain ⟨j, hij, hj, rfl, rfl⟩ := hrel
    have hjs := Nat.le_trans hj hend
    obtain ⟨n0, n1⟩ := TM.accN_bd most s.data.toList i hm j hij hj
    by_cases hlt : j < s.size
    · have hb := byte_at s j hlt
      obtain ⟨C, hC⟩ : ∃ C : Int, (s[j].toNat : Int) = C := ⟨_, rfl⟩
      by_cases hd : 48 ≤ C ∧ C ≤ 57
      · obtain ⟨d1, d2⟩ := hd
        have hdig : TM.isDig s[j] = true := (isDig_iff _).mpr (by omega)
        have hon := TM.dig_on hj hb hdig
        have hacc := TM.accN_succ most s.data.toList i j _ hij hb
        have hdv : TM.dval s[j] = C - 48 := by unfold TM.dval; omega
        unfold TM.stepN at hacc
        rw [hdv] at hacc
        have HA := Lib.hid hacc
        clear hacc hdig hb hdv
        have hg : (Z == 48) = false := by rw [beq_eq_false_iff_ne]; exact h48'
        by_cases hji : j = i + 1
        · have hji' : ((j : Int) == (i : Int) + 1) = true := by rw [beq_iff_eq]; omega
          clear hji
          by_cases hgt : (most - (C - 48)) / 10 < TM.accN most s.data.toList i j
          · go_wp2
            go_round
            case rel => exact ⟨j + 1, by omega, by omega, by rw [HA.out, if_pos hgt], by go_num⟩
            case measure => simp only [intOf]; omega
          · have hle : 10 * TM.accN most s.data.toList i j + (C - 48) ≤ most := by omega
            go_wp2
            go_round
            case rel => exact ⟨j + 1, by omega, by omega, by rw [HA.out, if_neg hgt], by go_num⟩
            case measure => simp only [intOf]; omega
        · have hji' : ((j : Int) == (i : Int) + 1) = false := by rw [beq_eq_false_iff_ne]; omega
          by_cases hgt : (most - (C - 48)) / 10 < TM.accN most s.data.toList i j
          · go_wp2
            go_round
            case rel => exact ⟨j + 1, by omega, by omega, by rw [HA.out, if_pos hgt], by go_num⟩
            case measure => simp only [intOf]; omega
          · have hle : 10 * TM.accN most s.data.toList i j + (C - 48) ≤ most := by omega
            go_wp2
            go_round
            case rel => exact ⟨j + 1, by omega, by omega, by rw [HA.out, if_neg hgt], by go_num⟩
            case measure => simp only [intOf]; omega
      · have hnd : TM.isDig s[j] = false := (isDig_not _).mpr (by omega)
        have he := Lib.hid (TM.dig_end hij hj (.inr ⟨_, hb, hnd⟩))
        clear hb hnd
        have hd' : C < 48 ∨ 57 < C := by omega
        clear hd
        rcases hd' with d1 | d1
        · go_wp2
          go_ret3
          rw [← he.out]
          exact ⟨rfl, rfl⟩
        · go_wp2
          go_ret3
          rw [← he.out]
          exact ⟨rfl, rfl⟩
    · have he := Lib.hid (TM.dig_end hij hj (.inl (by rw [len_list]; omega)))
      go_wp2
      go_ret3
      rw [← he.out]
      exact ⟨rfl, rfl⟩

set_option maxRecDepth 100000 in
set_option maxHeartbeats 2000000 in
theorem refNumber_short (s : ByteArray) (i : Nat) (most : Int) (w : World) (hs : s.size ≤ 9223372036854775807) (hi : i ≤ s.size) (hm : 9 ≤ most) (hm' : most ≤ 2305843009213693952) (hpos : i < TM.digEnd s.data.toList i) (hone : TM.digEnd s.data.toList i ≤ i + 1) :
    Calls Tryd.prog 47 #[.string s, .int .i64 i, .int .i64 most] w fun e w' => e = .returned (.tuple #[.int .i64 (TM.accN most s.data.toList i (TM.digEnd s.data.toList i)), .int .i64 (TM.digEnd s.data.toList i), .int .i64 (-1)]) ∧ w = w' := by
  obtain ⟨c0, hc0, hdig0⟩ := TM.dig_in (Nat.le_refl i) hpos
  have hend : TM.digEnd s.data.toList i ≤ s.size := by
    have := TM.digEnd_le s.data.toList i (by rw [len_list]; exact hi)
    rw [len_list] at this
    exact this
  have hlt0 : i < s.size := by omega
  rw [byte_at s i hlt0] at hc0
  obtain rfl := Option.some.inj hc0
  obtain ⟨z0, z1⟩ := (isDig_iff _).mp hdig0
  clear hc0 hdig0
  obtain ⟨Z, hZ⟩ : ∃ Z : Int, (s[i].toNat : Int) = Z := ⟨_, rfl⟩
  go_enter Tryd.func47, Tryd.ntmps47
  go_wp2
  go_loop [9, 10] (fun a b => ∃ j : Nat, i ≤ j ∧ j ≤ TM.digEnd s.data.toList i ∧ a = .int .i64 (TM.accN most s.data.toList i j) ∧ b = .int .i64 j) (fun _ b => s.size - (intOf b).toNat)
  case atStart => exact ⟨i, Nat.le_refl _, TM.digEnd_ge _ _, by rw [TM.accN_self], rfl⟩
  case round =>
    obtain ⟨j, hij, hj, rfl, rfl⟩ := hrel
    have hjs := Nat.le_trans hj hend
    obtain ⟨n0, n1⟩ := TM.accN_bd most s.data.toList i hm j hij hj
    by_cases hlt : j < s.size
    · have hb := byte_at s j hlt
      obtain ⟨C, hC⟩ : ∃ C : Int, (s[j].toNat : Int) = C := ⟨_, rfl⟩
      by_cases hd : 48 ≤ C ∧ C ≤ 57
      · obtain ⟨d1, d2⟩ := hd
        have hdig : TM.isDig s[j] = true := (isDig_iff _).mpr (by omega)
        have hon := TM.dig_on hj hb hdig
        have hacc := TM.accN_succ most s.data.toList i j _ hij hb
        have hdv : TM.dval s[j] = C - 48 := by unfold TM.dval; omega
        unfold TM.stepN at hacc
        rw [hdv] at hacc
        have HA := Lib.hid hacc
        clear hacc hdig hb hdv
        have hji' : ((j : Int) == (i : Int) + 1) = false := by rw [beq_eq_false_iff_ne]; omega
        by_cases hgt : (most - (C - 48)) / 10 < TM.accN most s.data.toList i j
        · go_wp2
          go_round
          case rel => exact ⟨j + 1, by omega, by omega, by rw [HA.out, if_pos hgt], by go_num⟩
          case measure => simp only [intOf]; omega
        · have hle : 10 * TM.accN most s.data.toList i j + (C - 48) ≤ most := by omega
          go_wp2
          go_round
          case rel => exact ⟨j + 1, by omega, by omega, by rw [HA.out, if_neg hgt], by go_num⟩
          case measure => simp only [intOf]; omega
      · have hnd : TM.isDig s[j] = false := (isDig_not _).mpr (by omega)
        have he := Lib.hid (TM.dig_end hij hj (.inr ⟨_, hb, hnd⟩))
        clear hb hnd
        have hd' : C < 48 ∨ 57 < C := by omega
        clear hd
        rcases hd' with d1 | d1
        · go_wp2
          go_ret3
          rw [← he.out]
          exact ⟨rfl, rfl⟩
        · go_wp2
          go_ret3
          rw [← he.out]
          exact ⟨rfl, rfl⟩
    · have he := Lib.hid (TM.dig_end hij hj (.inl (by rw [len_list]; omega)))
      go_wp2
      go_ret3
      rw [← he.out]
      exact ⟨rfl, rfl⟩

theorem refNumber_any (s : ByteArray) (i : Nat) (most : Int) (w : World) (hs : s.size ≤ 9223372036854775807) (hi : i ≤ s.size) (hm : 9 ≤ most) (hm' : most ≤ 2305843009213693952) :
    Calls Tryd.prog 47 #[.string s, .int .i64 i, .int .i64 most] w fun e w' => e = .returned (.tuple #[.int .i64 (numR s.data.toList i most).1, .int .i64 (numR s.data.toList i most).2.1, .int .i64 (numR s.data.toList i most).2.2]) ∧ w = w' := by
  have hge := TM.digEnd_ge s.data.toList i
  unfold numR
  by_cases h : TM.digEnd s.data.toList i = i
  · rw [if_pos h]; exact refNumber_none s i most w h
  · rw [if_neg h]
    by_cases h2 : s.data.toList[i]? = some 48 ∧ i + 1 < TM.digEnd s.data.toList i
    · rw [if_pos h2]; exact refNumber_lead s i most w hs hi hm hm' h2.1 h2.2
    · rw [if_neg h2]
      by_cases h3 : s.data.toList[i]? = some 48
      · exact refNumber_short s i most w hs hi hm hm' (by omega) (by
          have : ¬ i + 1 < TM.digEnd s.data.toList i := fun g => h2 ⟨h3, g⟩
          omega)
      · exact refNumber_plain s i most w hs hi hm hm' (by omega) h3
end Go.Proofs.YthbphanlmhghdaaDoor
