/- THE WALK of the document's unitAt. -/
import Derived.Test.YthbphanlmhghdaaDoorWq
import Derived.Lib.Strings
namespace Go.Proofs.YthbphanlmhghdaaDoor
open Go.RowKit

theorem com_full : ∀ (a n : List UInt8), TM.comN a n = n.length ↔ a.take n.length = n
  | a, [] => by simp; cases a <;> rfl
  | [], y :: ys => by simp [TM.comN]
  | x :: xs, y :: ys => by
    rw [TM.comN]
    by_cases h : x = y
    · rw [if_pos h]
      have := com_full xs ys
      simp [h, this]
    · rw [if_neg h]
      simp [h]
theorem piece_iff (s : ByteArray) (b k : Nat) : (s.extract b (b + (TM.uname k).length)).toList = TM.uname k ↔ TM.comN (s.data.toList.drop b) (TM.uname k) = (TM.uname k).length := by
  rw [com_full, Lib.extract_toList, show b + (TM.uname k).length - b = (TM.uname k).length by omega]

/-- number or -1, place behind, place of the fault or -1 -/
def unitR (l : List UInt8) (b f : Nat) : Int × Int × Int := if TM.unitK l b f = 6 then (-1, b, TM.unitFar l b f) else (TM.unitK l b f, (b : Int) + TM.ulen (TM.unitK l b f), -1)

theorem two_pos (x : UInt8) : 0 < (⟨#[x, 115]⟩ : ByteArray).size := Nat.zero_lt_succ 1
/-- of two letters, or of one -/
theorem uname_kind (k : Nat) (hk : k < 6) : (k < 3 ∧ (TM.uname k).length = 1) ∨ (3 ≤ k ∧ ∃ x : UInt8, TM.uname k = [x, 115]) := by
  have : k = 0 ∨ k = 1 ∨ k = 2 ∨ k = 3 ∨ k = 4 ∨ k = 5 := by omega
  rcases this with rfl | rfl | rfl | rfl | rfl | rfl
  · exact .inl ⟨by omega, rfl⟩
  · exact .inl ⟨by omega, rfl⟩
  · exact .inl ⟨by omega, rfl⟩
  · exact .inr ⟨by omega, 109, rfl⟩
  · exact .inr ⟨by omega, 117, rfl⟩
  · exact .inr ⟨by omega, 110, rfl⟩
theorem stF_bd (l : List UInt8) (b f : Nat) : ∀ n, b ≤ TM.stF l b f n ∧ TM.stF l b f n ≤ b + 1
  | 0 => ⟨Nat.le_refl _, by show b ≤ b + 1; omega⟩
  | n + 1 => by
    have ih := stF_bd l b f n
    unfold TM.stF
    split
    · omega
    · unfold TM.stepF
      split <;> omega

set_option maxRecDepth 100000 in
set_option maxHeartbeats 2000000 in
theorem refUnitAt_any (s : ByteArray) (b f : Nat) (w : World) (hs : s.size ≤ 9223372036854775000) (hb : b ≤ s.size) (hf : f ≤ 6) :
    Calls Tryd.prog 48 #[.string s, .int .i64 b, .int .i64 ((f : Int) - 1)] w fun e w' => e = .returned (.tuple #[.int .i64 (unitR s.data.toList b f).1, .int .i64 (unitR s.data.toList b f).2.1, .int .i64 (unitR s.data.toList b f).2.2]) ∧ Below w.heap.size w w' := by
  obtain ⟨R, hR⟩ : ∃ R, R = unitR s.data.toList b f := ⟨_, rfl⟩
  rw [← hR]
  have HR := Lib.hid hR
  clear hR
  go_enter Tryd.func48, Tryd.ntmps48
  go_wp2
  go_loopw [9, 10] (fun p q wr => ∃ k : Nat, f ≤ k ∧ k ≤ 6 ∧ p = .int .i64 (TM.stR s.data.toList b f k) ∧ q = .int .i64 k ∧ Below w.heap.size w wr) (fun _ q _ => 6 - (intOf q).toNat)
  case atStart => exact ⟨f, Nat.le_refl _, hf, by rw [TM.stR_start _ _ _ _ (Nat.le_refl _)], rfl, Below.refl _ _⟩
  case round =>
    obtain ⟨k, hfk, hk, rfl, rfl, hB⟩ := hrel
    by_cases h6 : k = 6
    · subst h6
      have hst := TM.stR_end s.data.toList b f hf
      obtain ⟨K, hK⟩ : ∃ K, K = TM.unitK s.data.toList b f := ⟨_, rfl⟩
      by_cases c6 : K = 6
      · rw [← hK, if_pos c6] at hst
        rw [hst]
        have hfin := Lib.hid (TM.stF_end s.data.toList b f hf (by rw [← hK]; exact c6))
        have ans : R = (-1, (b : Int), (TM.unitFar s.data.toList b f : Int)) := by rw [HR.out, unitR, if_pos (by rw [← hK]; exact c6)]
        have ANS := Lib.hid ans
        clear hst ans hK c6
        have h66 : ((6 : Nat) : Int) = 6 := rfl
        rw [h66]
        clear h66
        go_wp2
        go_loopw [15, 16] (fun p q wr => ∃ k : Nat, f ≤ k ∧ k ≤ 6 ∧ p = .int .i64 (TM.stF s.data.toList b f k) ∧ q = .int .i64 k ∧ Below w.heap.size w wr) (fun _ q _ => 6 - (intOf q).toNat)
        case atStart => exact ⟨f, Nat.le_refl _, hf, by rw [TM.stF_start _ _ _ _ (Nat.le_refl _)], rfl, hB⟩
        case round =>
          obtain ⟨k, hfk, hk, rfl, rfl, hB⟩ := hrel
          by_cases h6 : k = 6
          · subst h6
            go_wp2
            go_ret3
            rw [ANS.out, hfin.out]
            exact ⟨rfl, hB⟩
          · obtain ⟨A, hA⟩ : ∃ A, A = TM.stF s.data.toList b f k := ⟨_, rfl⟩
            have hAb := stF_bd s.data.toList b f k
            rw [← hA] at hAb ⊢
            obtain ⟨a1, a2⟩ := hAb
            have hnx := TM.stF_next s.data.toList b f k hfk
            rw [TM.stepF, ← hA] at hnx
            rcases uname_kind k (by omega) with ⟨k3, hul⟩ | ⟨k3, x, hux⟩
            · rw [if_neg (by rintro ⟨g, _⟩; rw [TM.ulen, hul] at g; omega)] at hnx
              have NX := Lib.hid hnx
              clear hnx hA
              go_wp2_with (go_at_call 42; refine (unit_any k _ (by omega)).mono ?_; rintro e w1 ⟨rfl, hb1⟩)
              go_quiet (fail)
              go_wp2
              go_roundw
              case rel => exact ⟨k + 1, by omega, by omega, by rw [NX.out], by go_num, below_drewN (hB.trans (hb1.mono hB.size)) _⟩
              case measure => simp only [intOf]; omega
            · have hcall : ∀ W : World, Calls Tryd.prog 42 #[.int .i64 k] W fun e w' => e = .returned (.tuple #[.string ⟨#[x, 115]⟩, .int .i64 (TM.usize k)]) ∧ Below W.heap.size W w' := by
                intro W
                have := unit_any k W (by omega)
                rw [hux] at this
                exact this
              have HC := Lib.hid hcall
              rw [hux, TM.ulen, hux] at hnx
              have hnx' : TM.stF s.data.toList b f (k + 1) = if s.data.toList[b]? = some x ∧ A < b + 1 then b + 1 else A := by
                rw [hnx]
                simp
              clear hcall hnx hux hA
              by_cases hbs : b < s.size
              · have hby := byte_at s b hbs
                rw [hby] at hnx'
                obtain ⟨C, hC⟩ : ∃ C : Int, (s[b].toNat : Int) = C := ⟨_, rfl⟩
                obtain ⟨X, hXX⟩ : ∃ X : Int, (x.toNat : Int) = X := ⟨_, rfl⟩
                have hX : (((⟨#[x, 115]⟩ : ByteArray)[0]'(two_pos x)).toNat : Int) = X := hXX
                by_cases hcx : C = X
                · have e1 : s[b] = x := UInt8.toNat_inj.mp (by omega)
                  have hcx' : (C == X) = true := by rw [beq_iff_eq]; exact hcx
                  by_cases hg : A < b + 1
                  · rw [if_pos ⟨by rw [e1], hg⟩] at hnx'
                    have NX := Lib.hid hnx'
                    clear hnx' hby e1 hcx
                    have hg' : (A : Int) < (b : Int) + 1 := by omega
                    go_wp2_with (go_at_call 42; refine (HC.out _).mono ?_; rintro e w1 ⟨rfl, hb1⟩)
                    go_quiet (fail)
                    go_wp2
                    go_roundw
                    case rel => exact ⟨k + 1, by omega, by omega, by rw [NX.out]; go_num, by go_num, below_drewN (hB.trans (hb1.mono hB.size)) _⟩
                    case measure => simp only [intOf]; omega
                  · rw [if_neg (fun g => hg g.2)] at hnx'
                    have NX := Lib.hid hnx'
                    clear hnx' hby e1 hcx
                    have hg' : decide ((A : Int) < (b : Int) + 1) = false := decide_eq_false (by omega)
                    go_wp2_with (go_at_call 42; refine (HC.out _).mono ?_; rintro e w1 ⟨rfl, hb1⟩)
                    go_quiet (fail)
                    go_wp2
                    go_roundw
                    case rel => exact ⟨k + 1, by omega, by omega, by rw [NX.out], by go_num, below_drewN (hB.trans (hb1.mono hB.size)) _⟩
                    case measure => simp only [intOf]; omega
                · have hcx' : (C == X) = false := by rw [beq_eq_false_iff_ne]; exact hcx
                  rw [if_neg (by rintro ⟨g, _⟩; apply hcx; rw [← hC, ← hXX, Option.some.inj g])] at hnx'
                  have NX := Lib.hid hnx'
                  clear hnx' hby hcx
                  go_wp2_with (go_at_call 42; refine (HC.out _).mono ?_; rintro e w1 ⟨rfl, hb1⟩)
                  go_quiet (fail)
                  go_wp2
                  go_roundw
                  case rel => exact ⟨k + 1, by omega, by omega, by rw [NX.out], by go_num, below_drewN (hB.trans (hb1.mono hB.size)) _⟩
                  case measure => simp only [intOf]; omega
              · have hd : decide (b < s.size) = false := decide_eq_false hbs
                rw [if_neg (by rintro ⟨g, _⟩; have := TM.get_lt g; rw [len_list] at this; exact hbs this)] at hnx'
                have NX := Lib.hid hnx'
                clear hnx'
                go_wp2_with (go_at_call 42; refine (HC.out _).mono ?_; rintro e w1 ⟨rfl, hb1⟩)
                go_quiet (fail)
                go_wp2
                go_roundw
                case rel => exact ⟨k + 1, by omega, by omega, by rw [NX.out], by go_num, below_drewN (hB.trans (hb1.mono hB.size)) _⟩
                case measure => simp only [intOf]; omega
      · rw [← hK, if_neg c6] at hst
        rw [hst]
        have hk5 := (TM.unitK_le' hK.symm c6)
        rw [len_list] at hk5
        obtain ⟨k1, k2, k3⟩ := hk5
        obtain ⟨V, hV⟩ : ∃ V, (TM.uname K).length = V := ⟨_, rfl⟩
        have hVV : TM.ulen K = V := hV
        rw [hVV] at k3
        have ans : R = ((K : Int), (b : Int) + V, -1) := by rw [HR.out, unitR, ← hK, if_neg c6, hVV]
        have ANS := Lib.hid ans
        clear hst ans hK c6 hVV
        go_wp2_with (go_at_call 42; refine (unit_any K _ (by omega)).mono ?_; rintro e w1 ⟨rfl, hb1⟩)
        go_ret3
        rw [ANS.out]
        exact ⟨rfl, hB.trans (hb1.mono hB.size)⟩
    · obtain ⟨A, hA⟩ : ∃ A, A = TM.stR s.data.toList b f k := ⟨_, rfl⟩
      have hnx := TM.stR_next s.data.toList b f k hfk
      rw [TM.stepR, ← hA, TM.ulen] at hnx
      rw [← hA]
      have hpi := piece_iff s b k
      obtain ⟨U, hU⟩ : ∃ U, (TM.uname k).length = U := ⟨_, rfl⟩
      have hU2 : U ≤ 2 := hU ▸ uname_short k
      rw [hU] at hnx hpi
      have hcl := TM.com_le' (s.data.toList.drop b) (TM.uname k)
      rw [List.length_drop, len_list] at hcl
      by_cases hin : b + U ≤ s.size
      · by_cases he : (s.extract b (b + U)).toList = TM.uname k
        · have hcc := hpi.mp he
          by_cases hneg : A < 0
          · rw [if_pos ⟨hcc, .inl hneg⟩] at hnx
            have NX := Lib.hid hnx
            clear hnx hcc hpi hA hcl
            go_wp2_with (go_at_call 42; refine (unit_any k _ (by omega)).mono ?_; rintro e w1 ⟨rfl, hb1⟩)
            go_roundw
            case rel => exact ⟨k + 1, by omega, by omega, by rw [NX.out], by go_num, hB.trans (hb1.mono hB.size)⟩
            case measure => simp only [intOf]; omega
          · by_cases hu2 : U = 2
            · rw [if_pos ⟨hcc, .inr hu2⟩] at hnx
              have NX := Lib.hid hnx
              have hu2' : ((U : Int) == 2) = true := by rw [beq_iff_eq]; omega
              clear hnx hcc hpi hA hcl hu2
              go_wp2_with (go_at_call 42; refine (unit_any k _ (by omega)).mono ?_; rintro e w1 ⟨rfl, hb1⟩)
              go_roundw
              case rel => exact ⟨k + 1, by omega, by omega, by rw [NX.out], by go_num, hB.trans (hb1.mono hB.size)⟩
              case measure => simp only [intOf]; omega
            · rw [if_neg (by rintro ⟨_, g | g⟩; exact hneg g; exact hu2 g)] at hnx
              have NX := Lib.hid hnx
              have hu2' : ((U : Int) == 2) = false := by rw [beq_eq_false_iff_ne]; omega
              clear hnx hcc hpi hA hcl hu2
              go_wp2_with (go_at_call 42; refine (unit_any k _ (by omega)).mono ?_; rintro e w1 ⟨rfl, hb1⟩)
              go_roundw
              case rel => exact ⟨k + 1, by omega, by omega, by rw [NX.out], by go_num, hB.trans (hb1.mono hB.size)⟩
              case measure => simp only [intOf]; omega
        · rw [if_neg (fun g => he (hpi.mpr g.1))] at hnx
          have NX := Lib.hid hnx
          clear hnx hpi hA hcl
          go_wp2_with (go_at_call 42; refine (unit_any k _ (by omega)).mono ?_; rintro e w1 ⟨rfl, hb1⟩)
          go_roundw
          case rel => exact ⟨k + 1, by omega, by omega, by rw [NX.out], by go_num, hB.trans (hb1.mono hB.size)⟩
          case measure => simp only [intOf]; omega
      · rw [if_neg (by rintro ⟨g, _⟩; omega)] at hnx
        have NX := Lib.hid hnx
        clear hnx hpi hA hcl
        go_wp2_with (go_at_call 42; refine (unit_any k _ (by omega)).mono ?_; rintro e w1 ⟨rfl, hb1⟩)
        go_roundw
        case rel => exact ⟨k + 1, by omega, by omega, by rw [NX.out], by go_num, hB.trans (hb1.mono hB.size)⟩
        case measure => simp only [intOf]; omega
end Go.Proofs.YthbphanlmhghdaaDoor
