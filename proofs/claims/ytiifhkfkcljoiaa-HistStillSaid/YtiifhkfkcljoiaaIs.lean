/- THE WALKS of package hist: fits; Check. -/
import Derived.Test.YtiifhkfkcljoiaaIr
import Derived.Deep.RegionLaw
import Derived.Deep.AppendLies
import Derived.Laws.MakeOwn
namespace Go.Proofs.Ytiifhkfkcljoiaa
open Go Go.RowKit
set_option maxRecDepth 100000
set_option maxHeartbeats 3200000
def fitsNone (su le gr : Int) : Bool := su == 0 && le == -1 && gr == -1
def fitsB (l h d : Int) (f g : Nat) (x su le gr : Int) : Bool := isInB l h d le f && isInB l h d gr g && decide (le ≤ gr) && (!(f == g && x == 1) || (le == gr && su == IntKind.u64.wrap le))
section
variable {w : World} {A : Option Addr} {c : Nat} {xs : List Int} {l h d xc su le gr : Int}
theorem fits_none (hA : Ext .u64 w A xs) (hl : xs.length ≤ 17592186044416) (hz : allZ xs xs.length) : Calls Try.prog 47 #[.agg #[.int .i64 l, .int .i64 h, .int .i64 d], .agg #[.int .u64 xc, .int .u64 su, .int .i64 le, .int .i64 gr, .slice A xs.length c]] w fun e w' => e = .returned (.bool (fitsNone su le gr)) ∧ Below w.heap.size w w' := by
  have hb0 : Below w.heap.size w ((w.alloc (.cells #[.int .i64 l, .int .i64 h, .int .i64 d] 23)).alloc (.cells #[.int .u64 xc, .int .u64 su, .int .i64 le, .int .i64 gr, .slice A xs.length c] 44)) := ((Below.refl w.heap.size w).alloc (Nat.le_refl _) _).alloc (by simp) _
  have HB0 := Lib.hid hb0
  have HA := Lib.hid (hA.on hb0)
  have HZ := Lib.hid hz
  clear hA hz hb0
  have hf : fitsNone su le gr = fitsNone su le gr := rfl
  by_cases h1 : su = 0
  · subst h1
    by_cases h2 : le = -1
    · subst h2
      go_enter Try.func47, Try.ntmps47
      go_wp2_with (go_at_call 74; refine (indexFunc_none HA.out hl HZ.out).mono ?_; rintro e wx ⟨rfl, rfl⟩)
      go_ret
      exact ⟨by simp [fitsNone], HB0.out⟩
    · have h2b : (le == -1) = false := by simpa using h2
      clear h2
      go_enter Try.func47, Try.ntmps47
      go_wp2_with (go_at_call 74; refine (indexFunc_none HA.out hl HZ.out).mono ?_; rintro e wx ⟨rfl, rfl⟩)
      go_ret
      exact ⟨by simp [fitsNone, h2b], HB0.out⟩
  · have h1b : (su == 0) = false := by simpa using h1
    clear h1
    go_enter Try.func47, Try.ntmps47
    go_wp2_with (go_at_call 74; refine (indexFunc_none HA.out hl HZ.out).mono ?_; rintro e wx ⟨rfl, rfl⟩)
    go_ret
    exact ⟨by simp [fitsNone, h1b], HB0.out⟩
theorem fits_some {f g : Nat} {x y : Int} (r : Sc.rightB l h d = true) (hA : Ext .u64 w A xs) (hl : xs.length ≤ 17592186044416) (hx : xs[f]? = some x) (hx0 : x ≠ 0) (hz : allZ xs f) (hy : xs[g]? = some y) (hy0 : y ≠ 0) (hz2 : ∀ j, g < j → j < xs.length → xs[j]? = some 0) :
    Calls Try.prog 47 #[.agg #[.int .i64 l, .int .i64 h, .int .i64 d], .agg #[.int .u64 xc, .int .u64 su, .int .i64 le, .int .i64 gr, .slice A xs.length c]] w fun e w' => e = .returned (.bool (fitsB l h d f g x su le gr)) ∧ Below w.heap.size w w' := by
  have hb0 : Below w.heap.size w ((w.alloc (.cells #[.int .i64 l, .int .i64 h, .int .i64 d] 23)).alloc (.cells #[.int .u64 xc, .int .u64 su, .int .i64 le, .int .i64 gr, .slice A xs.length c] 44)) := ((Below.refl w.heap.size w).alloc (Nat.le_refl _) _).alloc (by simp) _
  have HB0 := Lib.hid hb0
  have HA := Lib.hid (hA.on hb0)
  have HX := Lib.hid hx
  have HX0 := Lib.hid hx0
  have HZ := Lib.hid hz
  have HY := Lib.hid hy
  have HY0 : Hid ((y != 0) = true) := Lib.hid (by simpa using hy0)
  have HZ2 := Lib.hid hz2
  have R := Lib.hid r
  have hgl := lt_of_get hy
  have hfl := lt_of_get hx
  have hfl2 : (f : Int) < (xs.length : Int) := by omega
  have hr1 : Row ((w.alloc (.cells #[.int .i64 l, .int .i64 h, .int .i64 d] 23)).alloc (.cells #[.int .u64 xc, .int .u64 su, .int .i64 le, .int .i64 gr, .slice A xs.length c] 44)) w.heap.size 23 [.int .i64 l, .int .i64 h, .int .i64 d] := (Row.new w 23 [.int .i64 l, .int .i64 h, .int .i64 d]).alloc _
  have hr2 : Row ((w.alloc (.cells #[.int .i64 l, .int .i64 h, .int .i64 d] 23)).alloc (.cells #[.int .u64 xc, .int .u64 su, .int .i64 le, .int .i64 gr, .slice A xs.length c] 44)) (w.heap.size + 1) 44 [.int .u64 xc, .int .u64 su, .int .i64 le, .int .i64 gr, .slice A xs.length c] := Row.at_ (w := w.alloc (.cells #[.int .i64 l, .int .i64 h, .int .i64 d] 23)) (by simp)
  have HR1 := Lib.hid hr1
  have HR2 := Lib.hid hr2
  have wl : IntKind.i64.wrap ((xs.length : Int) - 1) = ((xs.length - 1 : Nat) : Int) := by rw [IntKind.wrap_i64]; omega
  clear hA hb0 hx hx0 hz hy hy0 hz2 r hr1 hr2
  go_enter Try.func47, Try.ntmps47
  go_wp2_with (go_at_call 74; refine (indexFunc_some HA.out hl HX.out HX0.out HZ.out).mono ?_; rintro e wx ⟨rfl, rfl⟩)
  go_loopw [6] (fun i wr => ∃ k : Nat, g ≤ k ∧ k < xs.length ∧ i = .int .i64 k ∧ ((w.alloc (.cells #[.int .i64 l, .int .i64 h, .int .i64 d] 23)).alloc (.cells #[.int .u64 xc, .int .u64 su, .int .i64 le, .int .i64 gr, .slice A xs.length c] 44)) = wr) (fun i _ => (intOf i).toNat)
  case atStart => exact ⟨xs.length - 1, by omega, by omega, rfl, rfl⟩
  case round =>
    obtain ⟨k, hk1, hk2, rfl, hw⟩ := hrel
    have HW := Lib.hid hw
    have hlt' : (k : Int) < (xs.length : Int) := by omega
    have HAw : Hid (Ext .u64 wr A xs) := Lib.hid (by rw [← hw]; exact HA.out)
    have hr2 : Row wr (w.heap.size + 1) 44 [.int .u64 xc, .int .u64 su, .int .i64 le, .int .i64 gr, .slice A xs.length c] := by rw [← hw]; exact HR2.out
    obtain ⟨q0, q1, q2, q3, q4⟩ := hr2.five
    clear hw
    by_cases hlt : g < k
    · obtain ⟨b, o, rfl, _, hc⟩ := HAw.out k 0 (HZ2.out k hlt hk2)
      have hpos : 1 ≤ (k : Int) := by omega
      clear hr2
      go_wp2_with (go_at_call 75; refine (isSome_any _ _).mono ?_; rintro e wx ⟨rfl, rfl⟩)
      go_roundw
      case rel => exact ⟨k - 1, by omega, by omega, by go_num, HW.out⟩
      case measure => simp [intOf]; omega
    · obtain rfl : k = g := by omega
      obtain ⟨b, o, rfl, _, hc⟩ := HAw.out k y HY.out
      obtain ⟨b', o', he, _, hc'⟩ := HAw.out f x HX.out
      cases he
      have hr1 : Row wr w.heap.size 23 [.int .i64 l, .int .i64 h, .int .i64 d] := by rw [← HW.out]; exact HR1.out
      have p0 := hr1.cell 0
      have p1 := hr1.cell 1
      have p2 := hr1.cell 2
      have HBW : Hid (Below w.heap.size w wr) := Lib.hid (by rw [← HW.out]; exact HB0.out)
      have HR1w := Lib.hid hr1
      have HR2w := Lib.hid hr2
      clear hr1 hr2
      cases i1 : isInB l h d le f with
      | false =>
        have I1 := Lib.hid i1
        clear i1
        go_wp2_with (first | (go_at_call 75; refine (isSome_any _ _).mono ?_; rw [HY0.out]; rintro e wx ⟨rfl, rfl⟩) | (go_at_call 76; (with_reducible refine (isIn_any R.out _).mono ?_); rw [I1.out]; rintro e w5 ⟨rfl, hb⟩; have HC5 := Lib.hid (HBW.out.trans (hb.mono HBW.out.size)); have ha5 := HAw.out.on hb; have HA5 := Lib.hid ha5; have hq5 := HR1w.out.below hb HR1w.out.lt; have hs5 := HR2w.out.below hb HR2w.out.lt; have HQ5 := Lib.hid hq5; have HS5 := Lib.hid hs5; have p0 := hq5.cell 0; have p1 := hq5.cell 1; have p2 := hq5.cell 2; obtain ⟨q0, q1, q2, q3, q4⟩ := hs5.five; obtain ⟨b9, o9, he9, _, hc9⟩ := ha5 _ _ HX.out; cases he9; have pl := hq5.lt; have ql := hs5.lt; clear hb ha5 hq5 hs5))
        go_ret
        exact ⟨by simp [fitsB, I1.out], HC5.out⟩
      | true =>
        have I1 := Lib.hid i1
        clear i1
        cases i2 : isInB l h d gr k with
        | false =>
          have I2 := Lib.hid i2
          clear i2
          go_wp2_with (first | (go_at_call 75; refine (isSome_any _ _).mono ?_; rw [HY0.out]; rintro e wx ⟨rfl, rfl⟩) | (go_at_call 76; (with_reducible refine (isIn_any R.out _).mono ?_); rw [I1.out]; rintro e w5 ⟨rfl, hb⟩; have HC5 := Lib.hid (HBW.out.trans (hb.mono HBW.out.size)); have ha5 := HAw.out.on hb; have HA5 := Lib.hid ha5; have hq5 := HR1w.out.below hb HR1w.out.lt; have hs5 := HR2w.out.below hb HR2w.out.lt; have HQ5 := Lib.hid hq5; have HS5 := Lib.hid hs5; have p0 := hq5.cell 0; have p1 := hq5.cell 1; have p2 := hq5.cell 2; obtain ⟨q0, q1, q2, q3, q4⟩ := hs5.five; obtain ⟨b9, o9, he9, _, hc9⟩ := ha5 _ _ HX.out; cases he9; have pl := hq5.lt; have ql := hs5.lt; clear hb ha5 hq5 hs5) | (go_at_call 76; (with_reducible refine (isIn_any R.out _).mono ?_); rw [I2.out]; rintro e w6 ⟨rfl, hb⟩; have HC6 := Lib.hid (HC5.out.trans (hb.mono HC5.out.size)); have ha6 := HA5.out.on hb; have HA6 := Lib.hid ha6; have hq6 := HQ5.out.below hb HQ5.out.lt; have hs6 := HS5.out.below hb HS5.out.lt; have HQ6 := Lib.hid hq6; have HS6 := Lib.hid hs6; have p0 := hq6.cell 0; have p1 := hq6.cell 1; have p2 := hq6.cell 2; obtain ⟨q0, q1, q2, q3, q4⟩ := hs6.five; obtain ⟨b9, o9, he9, _, hc9⟩ := ha6 _ _ HX.out; cases he9; have pl := hq6.lt; have ql := hs6.lt; clear hb ha6 hq6 hs6))
          go_ret
          exact ⟨by simp [fitsB, I1.out, I2.out], HC6.out⟩
        | true =>
          have I2 := Lib.hid i2
          clear i2
          by_cases h3 : gr < le
          · have h3b : decide (le ≤ gr) = false := by simp; omega
            have H3 := Lib.hid h3b
            clear h3b
            go_wp2_with (first | (go_at_call 75; refine (isSome_any _ _).mono ?_; rw [HY0.out]; rintro e wx ⟨rfl, rfl⟩) | (go_at_call 76; (with_reducible refine (isIn_any R.out _).mono ?_); rw [I1.out]; rintro e w5 ⟨rfl, hb⟩; have HC5 := Lib.hid (HBW.out.trans (hb.mono HBW.out.size)); have ha5 := HAw.out.on hb; have HA5 := Lib.hid ha5; have hq5 := HR1w.out.below hb HR1w.out.lt; have hs5 := HR2w.out.below hb HR2w.out.lt; have HQ5 := Lib.hid hq5; have HS5 := Lib.hid hs5; have p0 := hq5.cell 0; have p1 := hq5.cell 1; have p2 := hq5.cell 2; obtain ⟨q0, q1, q2, q3, q4⟩ := hs5.five; obtain ⟨b9, o9, he9, _, hc9⟩ := ha5 _ _ HX.out; cases he9; have pl := hq5.lt; have ql := hs5.lt; clear hb ha5 hq5 hs5) | (go_at_call 76; (with_reducible refine (isIn_any R.out _).mono ?_); rw [I2.out]; rintro e w6 ⟨rfl, hb⟩; have HC6 := Lib.hid (HC5.out.trans (hb.mono HC5.out.size)); have ha6 := HA5.out.on hb; have HA6 := Lib.hid ha6; have hq6 := HQ5.out.below hb HQ5.out.lt; have hs6 := HS5.out.below hb HS5.out.lt; have HQ6 := Lib.hid hq6; have HS6 := Lib.hid hs6; have p0 := hq6.cell 0; have p1 := hq6.cell 1; have p2 := hq6.cell 2; obtain ⟨q0, q1, q2, q3, q4⟩ := hs6.five; obtain ⟨b9, o9, he9, _, hc9⟩ := ha6 _ _ HX.out; cases he9; have pl := hq6.lt; have ql := hs6.lt; clear hb ha6 hq6 hs6))
            go_ret
            exact ⟨by simp [fitsB, I1.out, I2.out, H3.out], HC6.out⟩
          · have h3b : decide (le ≤ gr) = true := by simp; omega
            have H3 := Lib.hid h3b
            have h3' : le ≤ gr := by omega
            clear h3b h3
            by_cases h4 : f = k
            · subst h4
              obtain rfl : y = x := Option.some.inj (HY.out.symm.trans HX.out)
              clear hc
              by_cases h5 : y = 1
              · subst h5
                by_cases h6 : le = gr
                · subst h6
                  go_wp2_with (first | (go_at_call 75; refine (isSome_any _ _).mono ?_; rw [HY0.out]; rintro e wx ⟨rfl, rfl⟩) | (go_at_call 76; (with_reducible refine (isIn_any R.out _).mono ?_); rw [I1.out]; rintro e w5 ⟨rfl, hb⟩; have HC5 := Lib.hid (HBW.out.trans (hb.mono HBW.out.size)); have ha5 := HAw.out.on hb; have HA5 := Lib.hid ha5; have hq5 := HR1w.out.below hb HR1w.out.lt; have hs5 := HR2w.out.below hb HR2w.out.lt; have HQ5 := Lib.hid hq5; have HS5 := Lib.hid hs5; have p0 := hq5.cell 0; have p1 := hq5.cell 1; have p2 := hq5.cell 2; obtain ⟨q0, q1, q2, q3, q4⟩ := hs5.five; obtain ⟨b9, o9, he9, _, hc9⟩ := ha5 _ _ HX.out; cases he9; have pl := hq5.lt; have ql := hs5.lt; clear hb ha5 hq5 hs5) | (go_at_call 76; (with_reducible refine (isIn_any R.out _).mono ?_); rw [I2.out]; rintro e w6 ⟨rfl, hb⟩; have HC6 := Lib.hid (HC5.out.trans (hb.mono HC5.out.size)); have ha6 := HA5.out.on hb; have HA6 := Lib.hid ha6; have hq6 := HQ5.out.below hb HQ5.out.lt; have hs6 := HS5.out.below hb HS5.out.lt; have HQ6 := Lib.hid hq6; have HS6 := Lib.hid hs6; have p0 := hq6.cell 0; have p1 := hq6.cell 1; have p2 := hq6.cell 2; obtain ⟨q0, q1, q2, q3, q4⟩ := hs6.five; obtain ⟨b9, o9, he9, _, hc9⟩ := ha6 _ _ HX.out; cases he9; have pl := hq6.lt; have ql := hs6.lt; clear hb ha6 hq6 hs6))
                  go_ret
                  exact ⟨by simp [fitsB, I1.out], HC6.out⟩
                · have h6b : (le == gr) = false := by simpa using h6
                  clear h6
                  go_wp2_with (first | (go_at_call 75; refine (isSome_any _ _).mono ?_; rw [HY0.out]; rintro e wx ⟨rfl, rfl⟩) | (go_at_call 76; (with_reducible refine (isIn_any R.out _).mono ?_); rw [I1.out]; rintro e w5 ⟨rfl, hb⟩; have HC5 := Lib.hid (HBW.out.trans (hb.mono HBW.out.size)); have ha5 := HAw.out.on hb; have HA5 := Lib.hid ha5; have hq5 := HR1w.out.below hb HR1w.out.lt; have hs5 := HR2w.out.below hb HR2w.out.lt; have HQ5 := Lib.hid hq5; have HS5 := Lib.hid hs5; have p0 := hq5.cell 0; have p1 := hq5.cell 1; have p2 := hq5.cell 2; obtain ⟨q0, q1, q2, q3, q4⟩ := hs5.five; obtain ⟨b9, o9, he9, _, hc9⟩ := ha5 _ _ HX.out; cases he9; have pl := hq5.lt; have ql := hs5.lt; clear hb ha5 hq5 hs5) | (go_at_call 76; (with_reducible refine (isIn_any R.out _).mono ?_); rw [I2.out]; rintro e w6 ⟨rfl, hb⟩; have HC6 := Lib.hid (HC5.out.trans (hb.mono HC5.out.size)); have ha6 := HA5.out.on hb; have HA6 := Lib.hid ha6; have hq6 := HQ5.out.below hb HQ5.out.lt; have hs6 := HS5.out.below hb HS5.out.lt; have HQ6 := Lib.hid hq6; have HS6 := Lib.hid hs6; have p0 := hq6.cell 0; have p1 := hq6.cell 1; have p2 := hq6.cell 2; obtain ⟨q0, q1, q2, q3, q4⟩ := hs6.five; obtain ⟨b9, o9, he9, _, hc9⟩ := ha6 _ _ HX.out; cases he9; have pl := hq6.lt; have ql := hs6.lt; clear hb ha6 hq6 hs6))
                  go_ret
                  exact ⟨by simp [fitsB, I1.out, I2.out, H3.out, h6b], HC6.out⟩
              · have h5b : (y == 1) = false := by simpa using h5
                clear h5
                go_wp2_with (first | (go_at_call 75; refine (isSome_any _ _).mono ?_; rw [HY0.out]; rintro e wx ⟨rfl, rfl⟩) | (go_at_call 76; (with_reducible refine (isIn_any R.out _).mono ?_); rw [I1.out]; rintro e w5 ⟨rfl, hb⟩; have HC5 := Lib.hid (HBW.out.trans (hb.mono HBW.out.size)); have ha5 := HAw.out.on hb; have HA5 := Lib.hid ha5; have hq5 := HR1w.out.below hb HR1w.out.lt; have hs5 := HR2w.out.below hb HR2w.out.lt; have HQ5 := Lib.hid hq5; have HS5 := Lib.hid hs5; have p0 := hq5.cell 0; have p1 := hq5.cell 1; have p2 := hq5.cell 2; obtain ⟨q0, q1, q2, q3, q4⟩ := hs5.five; obtain ⟨b9, o9, he9, _, hc9⟩ := ha5 _ _ HX.out; cases he9; have pl := hq5.lt; have ql := hs5.lt; clear hb ha5 hq5 hs5) | (go_at_call 76; (with_reducible refine (isIn_any R.out _).mono ?_); rw [I2.out]; rintro e w6 ⟨rfl, hb⟩; have HC6 := Lib.hid (HC5.out.trans (hb.mono HC5.out.size)); have ha6 := HA5.out.on hb; have HA6 := Lib.hid ha6; have hq6 := HQ5.out.below hb HQ5.out.lt; have hs6 := HS5.out.below hb HS5.out.lt; have HQ6 := Lib.hid hq6; have HS6 := Lib.hid hs6; have p0 := hq6.cell 0; have p1 := hq6.cell 1; have p2 := hq6.cell 2; obtain ⟨q0, q1, q2, q3, q4⟩ := hs6.five; obtain ⟨b9, o9, he9, _, hc9⟩ := ha6 _ _ HX.out; cases he9; have pl := hq6.lt; have ql := hs6.lt; clear hb ha6 hq6 hs6))
                go_ret
                exact ⟨by simp [fitsB, I1.out, I2.out, H3.out, h5b], HC6.out⟩
            · have h4b : ((f : Int) == (k : Int)) = false := by rw [beq_eq_false_iff_ne]; omega
              have h4c : (f == k) = false := beq_eq_false_iff_ne.2 h4
              have H4 := Lib.hid h4c
              clear h4 h4c
              go_wp2_with (first | (go_at_call 75; refine (isSome_any _ _).mono ?_; rw [HY0.out]; rintro e wx ⟨rfl, rfl⟩) | (go_at_call 76; (with_reducible refine (isIn_any R.out _).mono ?_); rw [I1.out]; rintro e w5 ⟨rfl, hb⟩; have HC5 := Lib.hid (HBW.out.trans (hb.mono HBW.out.size)); have ha5 := HAw.out.on hb; have HA5 := Lib.hid ha5; have hq5 := HR1w.out.below hb HR1w.out.lt; have hs5 := HR2w.out.below hb HR2w.out.lt; have HQ5 := Lib.hid hq5; have HS5 := Lib.hid hs5; have p0 := hq5.cell 0; have p1 := hq5.cell 1; have p2 := hq5.cell 2; obtain ⟨q0, q1, q2, q3, q4⟩ := hs5.five; obtain ⟨b9, o9, he9, _, hc9⟩ := ha5 _ _ HX.out; cases he9; have pl := hq5.lt; have ql := hs5.lt; clear hb ha5 hq5 hs5) | (go_at_call 76; (with_reducible refine (isIn_any R.out _).mono ?_); rw [I2.out]; rintro e w6 ⟨rfl, hb⟩; have HC6 := Lib.hid (HC5.out.trans (hb.mono HC5.out.size)); have ha6 := HA5.out.on hb; have HA6 := Lib.hid ha6; have hq6 := HQ5.out.below hb HQ5.out.lt; have hs6 := HS5.out.below hb HS5.out.lt; have HQ6 := Lib.hid hq6; have HS6 := Lib.hid hs6; have p0 := hq6.cell 0; have p1 := hq6.cell 1; have p2 := hq6.cell 2; obtain ⟨q0, q1, q2, q3, q4⟩ := hs6.five; obtain ⟨b9, o9, he9, _, hc9⟩ := ha6 _ _ HX.out; cases he9; have pl := hq6.lt; have ql := hs6.lt; clear hb ha6 hq6 hs6))
              go_ret
              exact ⟨by simp [fitsB, I1.out, I2.out, H3.out, H4.out], HC6.out⟩
end
end Go.Proofs.Ytiifhkfkcljoiaa
