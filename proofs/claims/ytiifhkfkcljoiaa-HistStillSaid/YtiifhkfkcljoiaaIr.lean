/- THE WALKS of package hist: Check. -/
import Derived.Test.YtiifhkfkcljoiaaIp
import Derived.Deep.RegionLaw
import Derived.Deep.AppendLies
import Derived.Laws.MakeOwn
namespace Go.Proofs.Ytiifhkfkcljoiaa
open Go Go.RowKit
set_option maxRecDepth 100000
set_option maxHeartbeats 1600000
theorem isSome_any (x : Int) (w : World) : Calls Try.prog 75 #[.int .u64 x] w fun e w' => e = .returned (.bool (x != 0)) ∧ w = w' := by
  go_enter Try.func75, Try.ntmps75
  go_wp2
  go_ret
  exact ⟨rfl, rfl⟩
/-- so many of the first ones are nought -/
def allZ (xs : List Int) (k : Nat) : Prop := ∀ j, j < k → xs[j]? = some 0
/-- the sum modulo 2^64 -/
def sumU (xs : List Int) : Int := IntKind.u64.wrap xs.sum
theorem sumU_snoc (xs : List Int) (x : Int) : IntKind.u64.wrap (sumU xs + x) = sumU (xs ++ [x]) := by
  unfold sumU
  rw [List.sum_append, List.sum_singleton, IntKind.wrap_u64, IntKind.wrap_u64, IntKind.wrap_u64]
  omega
theorem take_snoc {xs : List Int} {k : Nat} {x : Int} (hx : xs[k]? = some x) : xs.take k ++ [x] = xs.take (k + 1) := by rw [List.take_add_one, hx]; rfl
section
variable {w : World} {A : Option Addr} {c : Nat} {xs : List Int} {l h d : Int}
theorem total_any (hA : Ext .u64 w A xs) (hl : xs.length ≤ 17592186044416) : Calls Try.prog 46 #[.slice A xs.length c] w fun e w' => e = .returned (.int .u64 (sumU xs)) ∧ w = w' := by
  have HA := Lib.hid hA
  clear hA
  go_enter Try.func46, Try.ntmps46
  go_wp2
  go_loopw [3, 8] (fun s i wr => ∃ k : Nat, k ≤ xs.length ∧ i = .int .i64 k ∧ s = .int .u64 (sumU (xs.take k)) ∧ w = wr) (fun _ i _ => xs.length - (intOf i).toNat)
  case atStart => exact ⟨0, Nat.zero_le _, rfl, rfl, rfl⟩
  case round =>
    obtain ⟨k, hk, rfl, rfl, rfl⟩ := hrel
    by_cases hlt : k < xs.length
    · obtain ⟨x, hx⟩ : ∃ x, xs[k]? = some x := ⟨xs[k], List.getElem?_eq_getElem hlt⟩
      obtain ⟨b, o, rfl, _, hc⟩ := HA.out k x hx
      have hlt' : (k : Int) < (xs.length : Int) := by omega
      have hsum := sumU_snoc (xs.take k) x
      rw [take_snoc hx] at hsum
      have HS := Lib.hid hsum
      clear hsum hx
      go_wp2
      go_roundw
      case rel => exact ⟨k + 1, by omega, by go_num, by rw [← HS.out], by trivial⟩
      case measure => simp [intOf]; omega
    · obtain rfl : k = xs.length := by omega
      go_wp2
      go_ret
      exact ⟨by rw [List.take_length]; rfl, rfl⟩
theorem indexFunc_some {k : Nat} {x : Int} (hA : Ext .u64 w A xs) (hl : xs.length ≤ 17592186044416) (hx : xs[k]? = some x) (hne : x ≠ 0) (hz : allZ xs k) : Calls Try.prog 74 #[.slice A xs.length c, .func (.func 75) #[] #[]] w fun e w' => e = .returned (.int .i64 (k : Int)) ∧ w = w' := by
  have HA := Lib.hid hA
  have HX := Lib.hid hx
  have HZ := Lib.hid hz
  have hkl := lt_of_get hx
  have hnb : (x != 0) = true := by simpa using hne
  clear hA hx hz hne
  go_enter Try.func74, Try.ntmps74
  go_wp2
  go_loopw [8] (fun i wr => ∃ j : Nat, j ≤ k ∧ i = .int .i64 j ∧ w = wr) (fun i _ => xs.length - (intOf i).toNat)
  case atStart => exact ⟨0, Nat.zero_le _, rfl, rfl⟩
  case round =>
    obtain ⟨j, hj, rfl, rfl⟩ := hrel
    have hlt' : (j : Int) < (xs.length : Int) := by omega
    by_cases hlt : j < k
    · have hx0 := HZ.out j hlt
      obtain ⟨b, o, rfl, _, hc⟩ := HA.out j 0 hx0
      clear hx0
      go_wp2_with (go_at_call 75; refine (isSome_any _ _).mono ?_; rintro e wx ⟨rfl, rfl⟩)
      go_roundw
      case rel => exact ⟨j + 1, by omega, by go_num, by trivial⟩
      case measure => simp [intOf]; omega
    · obtain rfl : j = k := by omega
      obtain ⟨b, o, rfl, _, hc⟩ := HA.out j x HX.out
      go_wp2_with (go_at_call 75; refine (isSome_any _ _).mono ?_; rw [hnb]; rintro e wx ⟨rfl, rfl⟩)
      go_ret
      exact ⟨rfl, rfl⟩
theorem indexFunc_none (hA : Ext .u64 w A xs) (hl : xs.length ≤ 17592186044416) (hz : allZ xs xs.length) : Calls Try.prog 74 #[.slice A xs.length c, .func (.func 75) #[] #[]] w fun e w' => e = .returned (.int .i64 (-1)) ∧ w = w' := by
  have HA := Lib.hid hA
  have HZ := Lib.hid hz
  clear hA hz
  go_enter Try.func74, Try.ntmps74
  go_wp2
  go_loopw [8] (fun i wr => ∃ j : Nat, j ≤ xs.length ∧ i = .int .i64 j ∧ w = wr) (fun i _ => xs.length - (intOf i).toNat)
  case atStart => exact ⟨0, Nat.zero_le _, rfl, rfl⟩
  case round =>
    obtain ⟨j, hj, rfl, rfl⟩ := hrel
    by_cases hlt : j < xs.length
    · have hlt' : (j : Int) < (xs.length : Int) := by omega
      have hx0 := HZ.out j hlt
      obtain ⟨b, o, rfl, _, hc⟩ := HA.out j 0 hx0
      clear hx0
      go_wp2_with (go_at_call 75; refine (isSome_any _ _).mono ?_; rintro e wx ⟨rfl, rfl⟩)
      go_roundw
      case rel => exact ⟨j + 1, by omega, by go_num, by trivial⟩
      case measure => simp [intOf]; omega
    · obtain rfl : j = xs.length := by omega
      go_wp2
      go_ret
      exact ⟨rfl, rfl⟩
/-- is a number on the scale, and in that bucket? -/
def isInB (l h d v : Int) (b : Nat) : Bool := decide (0 ≤ v) && decide (v ≤ h) && ixH l d v == b
theorem isIn_any {v : Int} {b : Nat} (r : Sc.rightB l h d = true) (w : World) : Calls Try.prog 76 #[.agg #[.int .i64 l, .int .i64 h, .int .i64 d], .int .i64 v, .int .i64 (b : Int)] w fun e w' => e = .returned (.bool (isInB l h d v b)) ∧ Below w.heap.size w w' := by
  have HB0 := Lib.hid (show Below w.heap.size w (w.alloc (.cells #[.int .i64 l, .int .i64 h, .int .i64 d] 23)) from (Below.refl _ _).alloc (Nat.le_refl _) _)
  have R := Lib.hid r
  clear r
  by_cases h0 : 0 ≤ v ∧ v ≤ h
  · obtain ⟨h0, h1⟩ := h0
    have he : isInB l h d v b = ((Sc.SC.idx (Sc.hOf d) (Sc.eOf l) v.toNat : Int) == (b : Int)) := by
      unfold isInB ixH
      rw [decide_eq_true h0, decide_eq_true h1]
      simp only [Bool.true_and]
      by_cases e : Sc.SC.idx (Sc.hOf d) (Sc.eOf l) v.toNat = b
      · simp [e]
      · have e' : ¬ ((Sc.SC.idx (Sc.hOf d) (Sc.eOf l) v.toNat : Int) = (b : Int)) := by omega
        rw [beq_eq_false_iff_ne.2 e, beq_eq_false_iff_ne.2 e']
    have HE := Lib.hid he
    clear he
    go_enter Try.func76, Try.ntmps76
    go_wp2_with (go_at_call 32; refine (Sc.sindex_yes R.out _ h0 h1).mono ?_; rintro e w2 ⟨rfl, hb⟩; have HB2 := Lib.hid (HB0.out.trans (hb.mono HB0.out.size)); clear hb)
    go_ret
    exact ⟨by rw [HE.out]; rfl, HB2.out⟩
  · have he : isInB l h d v b = false := by
      unfold isInB
      by_cases a : 0 ≤ v
      · have : ¬ v ≤ h := fun x => h0 ⟨a, x⟩
        simp [this]
      · simp [a]
    have HE := Lib.hid he
    have HV := Lib.hid (show v < 0 ∨ h < v by omega)
    clear he h0
    go_enter Try.func76, Try.ntmps76
    go_wp2_with (go_at_call 32; refine (Sc.sindex_out R.out HV.out _).mono ?_; rintro e w2 ⟨rfl, hb⟩; have HB2 := Lib.hid (HB0.out.trans (hb.mono HB0.out.size)); clear hb)
    go_ret
    exact ⟨by rw [HE.out]; rfl, HB2.out⟩
end
end Go.Proofs.Ytiifhkfkcljoiaa
