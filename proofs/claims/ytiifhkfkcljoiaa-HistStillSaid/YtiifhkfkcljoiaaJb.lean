/- THE WALKS of package hist: the document's Check; Merge. -/
import Derived.Test.YtiifhkfkcljoiaaJa
import Derived.Test.YtiifhkfkcljoiaaIx
import Derived.Deep.RegionLaw
import Derived.Deep.AppendLies
import Derived.Laws.MakeOwn
namespace Go.Proofs.Ytiifhkfkcljoiaa
open Go Go.RowKit
set_option maxRecDepth 100000
set_option maxHeartbeats 3200000
section
variable {w : World} {A B : Option Addr} {c c' : Nat} {xs : List Int} {l h d xc su le gr : Int} {f1 f2 : ShotH}
theorem refCheck_any (hA : Ext .u64 w A xs) (hl : xs.length ≤ 17592186044416) (h0 : ∀ (j : Nat) (x : Int), xs[j]? = some x → 0 ≤ x) : Calls Try.prog 27 #[.agg #[.int .i64 l, .int .i64 h, .int .i64 d], .agg #[.int .u64 xc, .int .u64 su, .int .i64 le, .int .i64 gr, .slice A xs.length c]] w fun e w' => e = .returned (.int .i64 (checkP l h d xs xc su le gr)) ∧ Below w.heap.size w w' := by
  have hb0 : Below w.heap.size w ((w.alloc (.cells #[.int .i64 l, .int .i64 h, .int .i64 d] 23)).alloc (.cells #[.int .u64 xc, .int .u64 su, .int .i64 le, .int .i64 gr, .slice A xs.length c] 44)) := ((Below.refl w.heap.size w).alloc (Nat.le_refl _) _).alloc (by simp) _
  have HB0 := Lib.hid hb0
  have HA := Lib.hid (hA.on hb0)
  have H0 := Lib.hid h0
  have HR1 : Hid (Row ((w.alloc (.cells #[.int .i64 l, .int .i64 h, .int .i64 d] 23)).alloc (.cells #[.int .u64 xc, .int .u64 su, .int .i64 le, .int .i64 gr, .slice A xs.length c] 44)) w.heap.size 23 [.int .i64 l, .int .i64 h, .int .i64 d]) := Lib.hid ((Row.new w 23 [.int .i64 l, .int .i64 h, .int .i64 d]).alloc _)
  have HR2 : Hid (Row ((w.alloc (.cells #[.int .i64 l, .int .i64 h, .int .i64 d] 23)).alloc (.cells #[.int .u64 xc, .int .u64 su, .int .i64 le, .int .i64 gr, .slice A xs.length c] 44)) (w.heap.size + 1) 44 [.int .u64 xc, .int .u64 su, .int .i64 le, .int .i64 gr, .slice A xs.length c]) := Lib.hid (Row.at_ (w := w.alloc (.cells #[.int .i64 l, .int .i64 h, .int .i64 d] 23)) (by simp))
  clear hA hb0 h0
  cases hr : Sc.rightB l h d with
  | false =>
    have R := Lib.hid hr
    have E1 := Lib.hid (show checkP l h d xs xc su le gr = 80 by unfold checkP; rw [if_pos hr])
    clear hr
    go_enter Try.func27, Try.ntmps27
    go_wp2_with (go_at_call 11; (with_reducible refine (Sc.right_any l h d _).mono ?_); rw [R.out]; rintro e w3 ⟨rfl, hb⟩; have HB3 := Lib.hid (HB0.out.trans (hb.mono HB0.out.size)); clear hb)
    go_ret
    exact ⟨by rw [E1.out]; rfl, HB3.out⟩
  | true =>
    have R := Lib.hid hr
    cases hf : (decide (xs.length = Sc.cnt l h d) && xc == sumU xs && fitsP l h d xs su le gr) with
    | false =>
      have F := Lib.hid hf
      have E1 := Lib.hid (show checkP l h d xs xc su le gr = 100 by
        unfold checkP
        rw [if_neg (by rw [hr]; decide)]
        by_cases a : xs.length ≠ Sc.cnt l h d
        · rw [if_pos a]
        · rw [if_neg a]
          by_cases b : xc ≠ sumU xs
          · rw [if_pos b]
          · rw [if_neg b]
            have a' : xs.length = Sc.cnt l h d := by simpa using a
            have b' : xc = sumU xs := by simpa using b
            rw [decide_eq_true a', b'] at hf
            rw [if_pos (by simpa using hf)])
      clear hr hf
      go_enter Try.func27, Try.ntmps27
      go_wp2_with (first | (go_at_call 11; (with_reducible refine (Sc.right_any l h d _).mono ?_); rw [R.out]; rintro e w3 ⟨rfl, hb⟩; have HB3 := Lib.hid (HB0.out.trans (hb.mono HB0.out.size)); have HA3 := Lib.hid (HA.out.on hb); have hq := HR1.out.below hb HR1.out.lt; have hs := HR2.out.below hb HR2.out.lt; have p0 := hq.cell 0; have p1 := hq.cell 1; have p2 := hq.cell 2; obtain ⟨q0, q1, q2, q3, q4⟩ := hs.five; clear hb hq hs) | (go_at_call 48; (with_reducible refine (refFits_any R.out HA3.out hl H0.out).mono ?_); rw [F.out]; rintro e w4 ⟨rfl, hb⟩; have HB4 := Lib.hid (HB3.out.trans (hb.mono HB3.out.size)); clear hb))
      go_ret
      exact ⟨by rw [E1.out]; rfl, HB4.out⟩
    | true =>
      have F := Lib.hid hf
      have E1 := Lib.hid (show checkP l h d xs xc su le gr = 0 by
        simp only [Bool.and_eq_true, decide_eq_true_eq, beq_iff_eq] at hf
        unfold checkP
        rw [if_neg (by rw [hr]; decide), if_neg (by simpa using hf.1.1), if_neg (by simpa using hf.1.2), if_neg (by rw [hf.2]; decide)])
      clear hr hf
      go_enter Try.func27, Try.ntmps27
      go_wp2_with (first | (go_at_call 11; (with_reducible refine (Sc.right_any l h d _).mono ?_); rw [R.out]; rintro e w3 ⟨rfl, hb⟩; have HB3 := Lib.hid (HB0.out.trans (hb.mono HB0.out.size)); have HA3 := Lib.hid (HA.out.on hb); have hq := HR1.out.below hb HR1.out.lt; have hs := HR2.out.below hb HR2.out.lt; have p0 := hq.cell 0; have p1 := hq.cell 1; have p2 := hq.cell 2; obtain ⟨q0, q1, q2, q3, q4⟩ := hs.five; clear hb hq hs) | (go_at_call 48; (with_reducible refine (refFits_any R.out HA3.out hl H0.out).mono ?_); rw [F.out]; rintro e w4 ⟨rfl, hb⟩; have HB4 := Lib.hid (HB3.out.trans (hb.mono HB3.out.size)); clear hb))
      go_ret
      exact ⟨by rw [E1.out]; rfl, HB4.out⟩
/-- the lesser one of two that may be -1, as the document has it -/
def lem (a b : Int) : Int := if a < 0 ∨ (0 ≤ b ∧ b < a) then b else a
/-- the document's Merge under way: so many buckets are there -/
structure RefMid (w : World) (f1 f2 : ShotH) (A B : Option Addr) (c c' : Nat) (M G : Int) (bO : Nat) (v : Value) (k : Nat) (wr : World) : Prop where
  x : Row wr (w.heap.size + 1) 44 [.int .u64 f1.c, .int .u64 f1.su, .int .i64 f1.le, .int .i64 f1.gr, .slice A f1.bu.length c]
  y : Row wr (w.heap.size + 1 + 1) 44 [.int .u64 f2.c, .int .u64 f2.su, .int .i64 f2.le, .int .i64 f2.gr, .slice B f2.bu.length c']
  res : Row wr (w.heap.size + 1 + 1 + 1) 44 [.int .u64 0, .int .u64 0, .int .i64 0, .int .i64 0, .slice none 0 0]
  box : Row wr bO 44 [.int .u64 (IntKind.u64.wrap (f1.c + f2.c)), .int .u64 (IntKind.u64.wrap (f1.su + f2.su)), .int .i64 M, .int .i64 G, v]
  own : wr.ownsRow w.heap.size 38 1 v k (u64s ((addU f1.bu f2.bu).take k))
  lo : w.heap.size + 1 + 1 + 1 < bO
  low : Below w.heap.size w wr
def RefMerged (w : World) (f1 f2 : ShotH) (e : Ending) (w' : World) : Prop :=
  ∃ A' c', e = .returned (.tuple #[.agg #[.int .u64 (IntKind.u64.wrap (f1.c + f2.c)), .int .u64 (IntKind.u64.wrap (f1.su + f2.su)), .int .i64 (lem f1.le f2.le), .int .i64 (max f1.gr f2.gr), .slice A' f1.bu.length c'], .int .i64 0]) ∧ w'.ownsRow w.heap.size 38 1 (.slice A' f1.bu.length c') f1.bu.length (u64s (addU f1.bu f2.bu)) ∧ Below w.heap.size w w'
end
end Go.Proofs.Ytiifhkfkcljoiaa
