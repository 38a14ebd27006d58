/- THE WALKS of package hist: Check. -/
import Derived.Test.YtiifhkfkcljoiaaIs
import Derived.Deep.RegionLaw
import Derived.Deep.AppendLies
import Derived.Laws.MakeOwn
namespace Go.Proofs.Ytiifhkfkcljoiaa
open Go Go.RowKit
set_option maxRecDepth 100000
set_option maxHeartbeats 3200000
theorem Below.draws {B : Nat} {w w' : World} (h : Below B w w') (n : Nat) : Below B w (w'.drewN n) := ⟨h.os, h.tape, h.output, h.size, h.block⟩
/-- the first one that is not nought; the last one -/
abbrev fI (xs : List Int) : Nat := xs.findIdx (fun x => x != 0)
def gI (xs : List Int) : Nat := xs.length - 1 - fI xs.reverse
def fitsP (l h d : Int) (xs : List Int) (su le gr : Int) : Bool := if fI xs = xs.length then fitsNone su le gr else fitsB l h d (fI xs) (gI xs) (xs.getD (fI xs) 0) su le gr
theorem fI_zero {xs : List Int} : allZ xs (fI xs) := fun j hj => by
  have hlt : j < xs.length := Nat.lt_of_lt_of_le hj List.findIdx_le_length
  have := List.not_of_lt_findIdx hj
  rw [List.getElem?_eq_getElem hlt]
  simpa using this
theorem fI_some {xs : List Int} (h : fI xs ≠ xs.length) : ∃ x, xs[fI xs]? = some x ∧ x ≠ 0 := by
  have hlt : fI xs < xs.length := Nat.lt_of_le_of_ne List.findIdx_le_length h
  refine ⟨xs[fI xs], List.getElem?_eq_getElem hlt, ?_⟩
  have := List.findIdx_getElem (w := hlt)
  simpa using this
theorem gI_some {xs : List Int} (h : fI xs ≠ xs.length) : ∃ y, xs[gI xs]? = some y ∧ y ≠ 0 ∧ ∀ j, gI xs < j → j < xs.length → xs[j]? = some 0 := by
  have hr : fI xs.reverse ≠ xs.reverse.length := fun e => by
    obtain ⟨x, hx, hne⟩ := fI_some h
    have hlt := lt_of_get hx
    have hz := fI_zero (xs := xs.reverse) (xs.length - 1 - fI xs) (by rw [e, List.length_reverse]; omega)
    rw [List.getElem?_reverse (by omega), show xs.length - 1 - (xs.length - 1 - fI xs) = fI xs by omega, hx] at hz
    exact hne (Option.some.inj hz)
  obtain ⟨y, hy, hne⟩ := fI_some hr
  have hlt := lt_of_get hy
  rw [List.length_reverse] at hlt
  rw [List.getElem?_reverse hlt] at hy
  refine ⟨y, hy, hne, fun j hj hjl => ?_⟩
  have hz := fI_zero (xs := xs.reverse) (xs.length - 1 - j) (by unfold gI at hj; omega)
  rw [List.getElem?_reverse (by omega), show xs.length - 1 - (xs.length - 1 - j) = j by omega] at hz
  exact hz
section
variable {w : World} {A : Option Addr} {c : Nat} {xs : List Int} {l h d xc su le gr : Int}
theorem fits_any (r : Sc.rightB l h d = true) (hA : Ext .u64 w A xs) (hl : xs.length ≤ 17592186044416) : Calls Try.prog 47 #[.agg #[.int .i64 l, .int .i64 h, .int .i64 d], .agg #[.int .u64 xc, .int .u64 su, .int .i64 le, .int .i64 gr, .slice A xs.length c]] w fun e w' => e = .returned (.bool (fitsP l h d xs su le gr)) ∧ Below w.heap.size w w' := by
  unfold fitsP
  by_cases hf : fI xs = xs.length
  · rw [if_pos hf]
    exact fits_none hA hl (hf ▸ fI_zero)
  · rw [if_neg hf]
    obtain ⟨x, hx, hx0⟩ := fI_some hf
    obtain ⟨y, hy, hy0, hz⟩ := gI_some hf
    rw [show xs.getD (fI xs) 0 = x by rw [List.getD_eq_getElem?_getD, hx]; rfl]
    exact fits_some r hA hl hx hx0 fI_zero hy hy0 hz
/-- what Check answers -/
def checkP (l h d : Int) (xs : List Int) (xc su le gr : Int) : Int :=
  if Sc.rightB l h d = false then 80 else if xs.length ≠ Sc.cnt l h d then 100 else if xc ≠ sumU xs then 100 else if fitsP l h d xs su le gr = false then 100 else 0
theorem check_any (hA : Ext .u64 w A xs) (hl : xs.length ≤ 17592186044416) : Calls Try.prog 26 #[.agg #[.int .i64 l, .int .i64 h, .int .i64 d], .agg #[.int .u64 xc, .int .u64 su, .int .i64 le, .int .i64 gr, .slice A xs.length c]] w fun e w' => e = .returned (.int .i64 (checkP l h d xs xc su le gr)) ∧ Below w.heap.size w w' := by
  have hb0 : Below w.heap.size w ((w.alloc (.cells #[.int .i64 l, .int .i64 h, .int .i64 d] 23)).alloc (.cells #[.int .u64 xc, .int .u64 su, .int .i64 le, .int .i64 gr, .slice A xs.length c] 44)) := ((Below.refl w.heap.size w).alloc (Nat.le_refl _) _).alloc (by simp) _
  have HB0 := Lib.hid hb0
  have HA := Lib.hid (hA.on hb0)
  have HR1 : Hid (Row ((w.alloc (.cells #[.int .i64 l, .int .i64 h, .int .i64 d] 23)).alloc (.cells #[.int .u64 xc, .int .u64 su, .int .i64 le, .int .i64 gr, .slice A xs.length c] 44)) w.heap.size 23 [.int .i64 l, .int .i64 h, .int .i64 d]) := Lib.hid ((Row.new w 23 [.int .i64 l, .int .i64 h, .int .i64 d]).alloc _)
  have HR2 : Hid (Row ((w.alloc (.cells #[.int .i64 l, .int .i64 h, .int .i64 d] 23)).alloc (.cells #[.int .u64 xc, .int .u64 su, .int .i64 le, .int .i64 gr, .slice A xs.length c] 44)) (w.heap.size + 1) 44 [.int .u64 xc, .int .u64 su, .int .i64 le, .int .i64 gr, .slice A xs.length c]) := Lib.hid (Row.at_ (w := w.alloc (.cells #[.int .i64 l, .int .i64 h, .int .i64 d] 23)) (by simp))
  clear hA hb0
  cases hr : Sc.rightB l h d with
  | false =>
    have R := Lib.hid hr
    have hE := Lib.hid (show checkP l h d xs xc su le gr = 80 by unfold checkP; rw [if_pos hr])
    clear hr
    go_enter Try.func26, Try.ntmps26
    go_wp2_with (go_at_call 31; refine (Sc.scount_no R.out _).mono ?_; rintro e w3 ⟨rfl, hb⟩; have HB3 := Lib.hid (HB0.out.trans (hb.mono HB0.out.size)); clear hb)
    go_ret
    exact ⟨by rw [hE.out]; rfl, HB3.out⟩
  | true =>
    have R := Lib.hid hr
    have hr2 : ¬ (Sc.rightB l h d = false) := by rw [hr]; decide
    have HC := Lib.hid (fun w => Sc.scount_yes (l := l) (h := h) (d := d) hr w)
    by_cases h1 : xs.length = Sc.cnt l h d
    · have h1b : ((xs.length : Int) != ((Sc.cnt l h d : Nat) : Int)) = false := by rw [h1]; simp
      have H1B := Lib.hid h1b
      by_cases h2 : xc = sumU xs
      · have h2b : (xc != sumU xs) = false := by rw [h2]; simp
        have H2B := Lib.hid h2b
        cases h3 : fitsP l h d xs su le gr with
        | false =>
          have H3 := Lib.hid h3
          have hE := Lib.hid (show checkP l h d xs xc su le gr = 100 by unfold checkP; rw [if_neg hr2, if_neg (by simpa using h1), if_neg (by simpa using h2), if_pos h3])
          clear hr hr2 h1 h2 h3 h1b h2b
          have h1b := H1B.out
          have h2b := H2B.out
          go_enter Try.func26, Try.ntmps26
          go_upto_region 5 with (go_at_call 31; refine (HC.out _).mono ?_; rintro e w3 ⟨rfl, hb⟩; have HB3 := Lib.hid (HB0.out.trans (hb.mono HB0.out.size)); have HA3 := Lib.hid (HA.out.on hb); have hq := HR1.out.below hb HR1.out.lt; have hs := HR2.out.below hb HR2.out.lt; have HQ3 := Lib.hid hq; have HS3 := Lib.hid hs; have p0 := hq.cell 0; have p1 := hq.cell 1; have p2 := hq.cell 2; obtain ⟨q0, q1, q2, q3, q4⟩ := hs.five; have pl := hq.lt; have ql := hs.lt; clear hb hq hs)
          go_quiet ((go_at_call 46; exact Calls.quiet_of_same ((total_any (HA3.out.on (Below.draws (Below.refl _ _) _)) hl).mono fun _ _ ⟨a, b⟩ => ⟨a, b.symm⟩)))
          have r0 := (HQ3.out.drewN nq).cell 0
          have r1 := (HQ3.out.drewN nq).cell 1
          have r2 := (HQ3.out.drewN nq).cell 2
          obtain ⟨s0, s1, s2, s3, s4⟩ := (HS3.out.drewN nq).five
          go_wp2_with (go_at_call 47; (with_reducible refine (fits_any R.out (HA3.out.on (Below.draws (Below.refl _ _) _)) hl).mono ?_); rw [H3.out]; rintro e w5 ⟨rfl, hb⟩; have HB5 := Lib.hid ((Below.draws HB3.out nq).trans (hb.mono HB3.out.size)); clear hb)
          go_ret
          exact ⟨by rw [hE.out]; rfl, HB5.out⟩
        | true =>
          have H3 := Lib.hid h3
          have hE := Lib.hid (show checkP l h d xs xc su le gr = 0 by unfold checkP; rw [if_neg hr2, if_neg (by simpa using h1), if_neg (by simpa using h2), if_neg (by rw [h3]; decide)])
          clear hr hr2 h1 h2 h3 h1b h2b
          have h1b := H1B.out
          have h2b := H2B.out
          go_enter Try.func26, Try.ntmps26
          go_upto_region 5 with (go_at_call 31; refine (HC.out _).mono ?_; rintro e w3 ⟨rfl, hb⟩; have HB3 := Lib.hid (HB0.out.trans (hb.mono HB0.out.size)); have HA3 := Lib.hid (HA.out.on hb); have hq := HR1.out.below hb HR1.out.lt; have hs := HR2.out.below hb HR2.out.lt; have HQ3 := Lib.hid hq; have HS3 := Lib.hid hs; have p0 := hq.cell 0; have p1 := hq.cell 1; have p2 := hq.cell 2; obtain ⟨q0, q1, q2, q3, q4⟩ := hs.five; have pl := hq.lt; have ql := hs.lt; clear hb hq hs)
          go_quiet ((go_at_call 46; exact Calls.quiet_of_same ((total_any (HA3.out.on (Below.draws (Below.refl _ _) _)) hl).mono fun _ _ ⟨a, b⟩ => ⟨a, b.symm⟩)))
          have r0 := (HQ3.out.drewN nq).cell 0
          have r1 := (HQ3.out.drewN nq).cell 1
          have r2 := (HQ3.out.drewN nq).cell 2
          obtain ⟨s0, s1, s2, s3, s4⟩ := (HS3.out.drewN nq).five
          go_wp2_with (go_at_call 47; (with_reducible refine (fits_any R.out (HA3.out.on (Below.draws (Below.refl _ _) _)) hl).mono ?_); rw [H3.out]; rintro e w5 ⟨rfl, hb⟩; have HB5 := Lib.hid ((Below.draws HB3.out nq).trans (hb.mono HB3.out.size)); clear hb)
          go_ret
          exact ⟨by rw [hE.out]; rfl, HB5.out⟩
      · have h2b : (xc != sumU xs) = true := by simpa using h2
        have H2B := Lib.hid h2b
        have hE := Lib.hid (show checkP l h d xs xc su le gr = 100 by unfold checkP; rw [if_neg hr2, if_neg (by simpa using h1), if_pos h2])
        clear hr hr2 h1 h2 h1b h2b
        have h1b := H1B.out
        have h2b := H2B.out
        go_enter Try.func26, Try.ntmps26
        go_upto_region 5 with (go_at_call 31; refine (HC.out _).mono ?_; rintro e w3 ⟨rfl, hb⟩; have HB3 := Lib.hid (HB0.out.trans (hb.mono HB0.out.size)); have HA3 := Lib.hid (HA.out.on hb); have hq := HR1.out.below hb HR1.out.lt; have hs := HR2.out.below hb HR2.out.lt; have HQ3 := Lib.hid hq; have HS3 := Lib.hid hs; have p0 := hq.cell 0; have p1 := hq.cell 1; have p2 := hq.cell 2; obtain ⟨q0, q1, q2, q3, q4⟩ := hs.five; have pl := hq.lt; have ql := hs.lt; clear hb hq hs)
        go_quiet ((go_at_call 46; exact Calls.quiet_of_same ((total_any (HA3.out.on (Below.draws (Below.refl _ _) _)) hl).mono fun _ _ ⟨a, b⟩ => ⟨a, b.symm⟩)))
        have r0 := (HQ3.out.drewN nq).cell 0
        have r1 := (HQ3.out.drewN nq).cell 1
        have r2 := (HQ3.out.drewN nq).cell 2
        obtain ⟨s0, s1, s2, s3, s4⟩ := (HS3.out.drewN nq).five
        go_wp2
        go_ret
        exact ⟨by rw [hE.out]; rfl, Below.draws HB3.out _⟩
    · have h1b : ((xs.length : Int) != ((Sc.cnt l h d : Nat) : Int)) = true := by simp; omega
      have H1B := Lib.hid h1b
      have hE := Lib.hid (show checkP l h d xs xc su le gr = 100 by unfold checkP; rw [if_neg hr2, if_pos h1])
      clear hr hr2 h1 h1b
      have h1b := H1B.out
      go_enter Try.func26, Try.ntmps26
      go_wp2_with (go_at_call 31; refine (HC.out _).mono ?_; rintro e w3 ⟨rfl, hb⟩; have HB3 := Lib.hid (HB0.out.trans (hb.mono HB0.out.size)); have HA3 := Lib.hid (HA.out.on hb); have hq := HR1.out.below hb HR1.out.lt; have hs := HR2.out.below hb HR2.out.lt; have HQ3 := Lib.hid hq; have HS3 := Lib.hid hs; have p0 := hq.cell 0; have p1 := hq.cell 1; have p2 := hq.cell 2; obtain ⟨q0, q1, q2, q3, q4⟩ := hs.five; have pl := hq.lt; have ql := hs.lt; clear hb hq hs)
      go_ret
      exact ⟨by rw [hE.out]; rfl, HB3.out⟩
end
end Go.Proofs.Ytiifhkfkcljoiaa
