/- THE WALKS of what two texts have in common, and of times.unitAt. -/
import Derived.Test.YthbphanlmhghdaaDoorWo
import Derived.Test.YthbphanlmhghdaaDoorCom
namespace Go.Proofs.YthbphanlmhghdaaDoor
open Go.RowKit

theorem dd (w : World) (m n : Nat) : (w.drewN m).drewN n = w.drewN (m + n) := by simp

set_option maxRecDepth 100000 in
set_option maxHeartbeats 1000000 in
theorem common_any (a b : ByteArray) (w : World) (ha : a.size ≤ 9223372036854775807) (hb : b.size ≤ 9223372036854775807) :
    Calls Tryd.prog 58 #[.string a, .string b] w fun e w' => e = .returned (.int .i64 (TM.comN a.data.toList b.data.toList)) ∧ ∃ n, w' = w.drewN n := by
  have hla := TM.com_le' a.data.toList b.data.toList
  rw [len_list] at hla
  go_enter Tryd.func58, Tryd.ntmps58
  go_wp2
  go_loopw [5] (fun p wr => ∃ j m : Nat, j ≤ TM.comN a.data.toList b.data.toList ∧ p = .int .i64 j ∧ wr = w.drewN m) (fun p _ => a.size - (intOf p).toNat)
  case atStart => exact ⟨0, 0, by omega, rfl, rfl⟩
  case round =>
    obtain ⟨j, m, hj, rfl, rfl⟩ := hrel
    by_cases h1 : j < a.size
    · by_cases h2 : j < b.size
      · have b1 := byte_at a j h1
        have b2 := byte_at b j h2
        obtain ⟨C, hC⟩ : ∃ C : Int, (a[j].toNat : Int) = C := ⟨_, rfl⟩
        obtain ⟨D, hD⟩ : ∃ D : Int, (b[j].toNat : Int) = D := ⟨_, rfl⟩
        by_cases hcd : C = D
        · have heq : a[j] = b[j] := UInt8.toNat_inj.mp (by omega)
          rw [heq] at b1
          have hon := TM.com_on hj b1 b2
          have he : (C == D) = true := by rw [beq_iff_eq]; exact hcd
          clear b1 b2 heq hcd
          go_wp2
          go_quiet (fail)
          go_wp2
          go_roundw
          case rel => exact ⟨j + 1, _, hon, by go_num, rfl⟩
          case measure => simp only [intOf]; omega
        · have hne : a[j] ≠ b[j] := by
            intro h
            apply hcd
            rw [← hC, ← hD, h]
          have hend := Lib.hid (TM.com_end hj (.inr (.inr ⟨_, _, b1, b2, hne⟩)))
          have he : (C == D) = false := by rw [beq_eq_false_iff_ne]; exact hcd
          clear b1 b2 hne hcd
          go_wp2
          go_quiet (fail)
          go_wp2
          go_ret
          exact ⟨ret_i (by rw [← hend.out]), _, dd _ _ _⟩
      · have hend := Lib.hid (TM.com_end hj (.inr (.inl (by rw [len_list]; omega))))
        have hd : decide (j < b.size) = false := decide_eq_false h2
        go_wp2
        go_quiet (fail)
        go_wp2
        go_ret
        exact ⟨ret_i (by rw [← hend.out]), _, dd _ _ _⟩
    · have hend := Lib.hid (TM.com_end hj (.inl (by rw [len_list]; omega)))
      have hd : decide (j < a.size) = false := decide_eq_false h1
      go_wp2
      go_quiet (fail)
      go_wp2
      go_ret
      exact ⟨ret_i (by rw [← hend.out]), _, dd _ _ _⟩

theorem drop_list (s : ByteArray) (b : Nat) : (s.extract b s.size).data.toList = s.data.toList.drop b := by
  rw [ByteArray.data_extract, Array.toList_extract, List.extract_eq_take_drop]
  rw [List.take_of_length_le]
  rw [List.length_drop, len_list]
  exact Nat.le_refl _

theorem max_int (F b c : Nat) : (if (F : Int) ≤ b + c then (b : Int) + c else F) = ((max F (b + c) : Nat) : Int) := by split <;> omega
theorem stT_bd (l : List UInt8) (b f : Nat) (hb : b ≤ l.length) : ∀ n, (TM.stT l b f n).2.1 ≤ l.length ∧ (TM.stT l b f n).2.2 ≤ l.length
  | 0 => ⟨hb, hb⟩
  | n + 1 => by
    have ih := stT_bd l b f hb n
    have hc := TM.com_le' (l.drop b) (TM.uname n)
    rw [List.length_drop] at hc
    unfold TM.stT
    split
    · exact ⟨hb, hb⟩
    · unfold TM.stepT
      refine ⟨?_, by simp only []; omega⟩
      simp only []
      split
      · omega
      · exact ih.1

set_option maxRecDepth 100000 in
set_option maxHeartbeats 1000000 in
theorem unitAt_any (s : ByteArray) (b f : Nat) (w : World) (hE : Env w) (hs : s.size ≤ 9223372036854775000) (hb : b ≤ s.size) (hf : f ≤ 6) :
    Calls Tryd.prog 45 #[.string s, .int .i64 b, .int .i64 f] w fun e w' => e = .returned (.tuple #[.int .i64 (TM.unitOut s.data.toList b f).1, .int .i64 (TM.unitOut s.data.toList b f).2]) ∧ ∃ n, w' = w.drewN n := by
  have hfin := Lib.hid (TM.stT_end s.data.toList b f hf)
  have hbd := Lib.hid (fun n => stT_bd s.data.toList b f (by rw [len_list]; exact hb) n)
  go_enter Tryd.func45, Tryd.ntmps45
  go_wp2
  go_loopw [8, 9, 10, 11] (fun p q r t wr => ∃ i m : Nat, f ≤ i ∧ i ≤ 6 ∧ p = .int .i64 (TM.stT s.data.toList b f i).1 ∧ q = .int .i64 (TM.stT s.data.toList b f i).2.1 ∧ r = .int .i64 (TM.stT s.data.toList b f i).2.2 ∧ t = .int .i64 i ∧ wr = w.drewN m) (fun _ _ _ t _ => 6 - (intOf t).toNat)
  case atStart => exact ⟨f, 0, Nat.le_refl _, hf, by rw [TM.stT_start _ _ _ _ (Nat.le_refl _)]; rfl, by rw [TM.stT_start _ _ _ _ (Nat.le_refl _)], by rw [TM.stT_start _ _ _ _ (Nat.le_refl _)], rfl, rfl⟩
  case round =>
    obtain ⟨i, m, hfi, hi, rfl, rfl, rfl, rfl, rfl⟩ := hrel
    obtain ⟨A, hA⟩ : ∃ A, A = (TM.stT s.data.toList b f i).1 := ⟨_, rfl⟩
    obtain ⟨E, hE1⟩ : ∃ E, E = (TM.stT s.data.toList b f i).2.1 := ⟨_, rfl⟩
    obtain ⟨F, hF⟩ : ∃ F, F = (TM.stT s.data.toList b f i).2.2 := ⟨_, rfl⟩
    have hbi := hbd.out i
    rw [len_list, ← hE1, ← hF] at hbi
    obtain ⟨hEb, hFb⟩ := hbi
    rw [← hA, ← hE1, ← hF]
    have HA := Lib.hid hA
    have HE := Lib.hid hE1
    have HF := Lib.hid hF
    clear hA hE1 hF
    by_cases h6 : i = 6
    · subst h6
      have fin := hfin.out
      rw [← HA.out, ← HE.out, ← HF.out] at fin
      have FIN := Lib.hid fin
      clear fin
      by_cases hA6 : A = 6
      · have hA7 : ((A : Int) == 6) = true := by rw [beq_iff_eq]; omega
        go_wp2
        go_ret2
        refine ⟨ret_ii ?_ ?_, _, rfl⟩
        · show (A : Int) = (TM.unitK s.data.toList b f : Int)
          rw [← FIN.out.1]
        · have := FIN.out.2
          rw [if_pos hA6] at this
          rw [← this]
      · have hA7 : ((A : Int) == 6) = false := by rw [beq_eq_false_iff_ne]; omega
        go_wp2
        go_ret2
        refine ⟨ret_ii ?_ ?_, _, rfl⟩
        · show (A : Int) = (TM.unitK s.data.toList b f : Int)
          rw [← FIN.out.1]
        · have := FIN.out.2
          rw [if_neg hA6] at this
          rw [← this]
    · have hc := (hE.2.1 i (by omega)).1
      rw [Nat.mul_comm 2 i] at hc
      obtain ⟨c, hcc⟩ : ∃ c, c = TM.comN (s.data.toList.drop b) (TM.uname i) := ⟨_, rfl⟩
      have hcl := TM.com_le' (s.data.toList.drop b) (TM.uname i)
      rw [← hcc, List.length_drop, len_list] at hcl
      obtain ⟨U, hU⟩ : ∃ U, (TM.uname i).length = U := ⟨_, rfl⟩
      have hU2 : U ≤ 2 := hU ▸ uname_short i
      have hcall : ∀ W : World, Calls Tryd.prog 58 #[.string (s.extract b s.size), .string ⟨(TM.uname i).toArray⟩] W fun e w' => e = .returned (.int .i64 c) ∧ ∃ n, w' = W.drewN n := by
        intro W
        have := common_any (s.extract b s.size) ⟨(TM.uname i).toArray⟩ W (by rw [ByteArray.size_extract]; omega) (by show (TM.uname i).toArray.size ≤ _; rw [List.size_toArray]; omega)
        have h2 : (⟨(TM.uname i).toArray⟩ : ByteArray).data.toList = TM.uname i := rfl
        rw [drop_list, h2, ← hcc] at this
        exact this
      have HC := Lib.hid hcall
      have CC := Lib.hid hcc
      have hnx : TM.stT s.data.toList b f (i + 1) = (if c = U ∧ E < b + c then i else A, if c = U ∧ E < b + c then b + c else E, max F (b + c)) := by
        have hu : TM.ulen i = U := hU
        rw [TM.stT_next _ _ _ _ hfi, TM.stepT, ← HA.out, ← HE.out, ← HF.out, ← hcc, hu]
      clear hcall hcc
      by_cases c1 : c = U
      · by_cases c2 : E < b + c
        · rw [if_pos ⟨c1, c2⟩, if_pos ⟨c1, c2⟩] at hnx
          have NX := Lib.hid hnx
          clear hnx
          subst c1
          go_wp2_with (go_at_call 58; refine (HC.out _).mono ?_; rintro e w1 ⟨rfl, n1, rfl⟩)
          go_roundw
          case rel => exact ⟨i + 1, _, by omega, by omega, by rw [NX.out], by rw [NX.out]; go_num, by rw [NX.out]; exact congrArg (Value.int .i64) (max_int F b c), by go_num, rfl⟩
          case measure => simp only [intOf]; omega
        · rw [if_neg (fun h => c2 h.2), if_neg (fun h => c2 h.2)] at hnx
          have NX := Lib.hid hnx
          clear hnx
          subst c1
          go_wp2_with (go_at_call 58; refine (HC.out _).mono ?_; rintro e w1 ⟨rfl, n1, rfl⟩)
          go_roundw
          case rel => exact ⟨i + 1, _, by omega, by omega, by rw [NX.out], by rw [NX.out], by rw [NX.out]; exact congrArg (Value.int .i64) (max_int F b c), by go_num, rfl⟩
          case measure => simp only [intOf]; omega
      · rw [if_neg (fun h => c1 h.1), if_neg (fun h => c1 h.1)] at hnx
        have NX := Lib.hid hnx
        clear hnx
        have c1' : ((b : Int) + c == (b : Int) + U) = false := by rw [beq_eq_false_iff_ne]; omega
        go_wp2_with (go_at_call 58; refine (HC.out _).mono ?_; rintro e w1 ⟨rfl, n1, rfl⟩)
        go_roundw
        case rel => exact ⟨i + 1, _, by omega, by omega, by rw [NX.out], by rw [NX.out], by rw [NX.out]; exact congrArg (Value.int .i64) (max_int F b c), by go_num, rfl⟩
        case measure => simp only [intOf]; omega
end Go.Proofs.YthbphanlmhghdaaDoor
