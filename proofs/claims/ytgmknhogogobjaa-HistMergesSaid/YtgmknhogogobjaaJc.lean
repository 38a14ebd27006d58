/- THE WALKS of package hist: the document's Merge. -/
import Derived.Test.YtgmknhogogobjaaJb
import Derived.Deep.RegionLaw
import Derived.Deep.AppendLies
import Derived.Laws.MakeOwn
namespace Go.Proofs.Ytgmknhogogobjaa
open Go Go.RowKit
set_option maxRecDepth 100000
set_option maxHeartbeats 6400000
section
variable {w : World} {A B : Option Addr} {c c' : Nat} {l h d : Int} {f1 f2 : ShotH}
theorem refMerge_no {why : Int} (hA : Ext .u64 w A f1.bu) (hB : Ext .u64 w B f2.bu) (hl1 : f1.bu.length ≤ 17592186044416) (hl2 : f2.bu.length ≤ 17592186044416) (h01 : ∀ (j : Nat) (x : Int), f1.bu[j]? = some x → 0 ≤ x) (h02 : ∀ (j : Nat) (x : Int), f2.bu[j]? = some x → 0 ≤ x) (hn : why ≠ 0) (hw : checkS l h d f1 = why ∨ (checkS l h d f1 = 0 ∧ checkS l h d f2 = why)) :
    Calls Try.prog 26 #[.agg #[.int .i64 l, .int .i64 h, .int .i64 d], .agg #[.int .u64 f1.c, .int .u64 f1.su, .int .i64 f1.le, .int .i64 f1.gr, .slice A f1.bu.length c], .agg #[.int .u64 f2.c, .int .u64 f2.su, .int .i64 f2.le, .int .i64 f2.gr, .slice B f2.bu.length c']] w fun e w' => e = .returned (.tuple #[.agg #[.int .u64 0, .int .u64 0, .int .i64 0, .int .i64 0, .slice none 0 0], .int .i64 why]) ∧ Below w.heap.size w w' := by
  have hb0 : Below w.heap.size w ((((w.alloc (.cells #[.int .i64 l, .int .i64 h, .int .i64 d] 23)).alloc (.cells #[.int .u64 f1.c, .int .u64 f1.su, .int .i64 f1.le, .int .i64 f1.gr, .slice A f1.bu.length c] 44)).alloc (.cells #[.int .u64 f2.c, .int .u64 f2.su, .int .i64 f2.le, .int .i64 f2.gr, .slice B f2.bu.length c'] 44)).alloc (.cells #[.int .u64 0, .int .u64 0, .int .i64 0, .int .i64 0, .slice none 0 0] 44)) := by repeat (first | (with_reducible exact Below.refl _ _) | refine Below.alloc ?_ (by simp; try omega) _)
  have HB0 := Lib.hid hb0
  have HA := Lib.hid (hA.on hb0)
  have HB := Lib.hid (hB.on hb0)
  have H01 := Lib.hid h01
  have H02 := Lib.hid h02
  have HR0 : Hid (Row ((((w.alloc (.cells #[.int .i64 l, .int .i64 h, .int .i64 d] 23)).alloc (.cells #[.int .u64 f1.c, .int .u64 f1.su, .int .i64 f1.le, .int .i64 f1.gr, .slice A f1.bu.length c] 44)).alloc (.cells #[.int .u64 f2.c, .int .u64 f2.su, .int .i64 f2.le, .int .i64 f2.gr, .slice B f2.bu.length c'] 44)).alloc (.cells #[.int .u64 0, .int .u64 0, .int .i64 0, .int .i64 0, .slice none 0 0] 44)) w.heap.size 23 [.int .i64 l, .int .i64 h, .int .i64 d]) := Lib.hid ((((Row.new w _ _).alloc _).alloc _).alloc _)
  have HR1 : Hid (Row ((((w.alloc (.cells #[.int .i64 l, .int .i64 h, .int .i64 d] 23)).alloc (.cells #[.int .u64 f1.c, .int .u64 f1.su, .int .i64 f1.le, .int .i64 f1.gr, .slice A f1.bu.length c] 44)).alloc (.cells #[.int .u64 f2.c, .int .u64 f2.su, .int .i64 f2.le, .int .i64 f2.gr, .slice B f2.bu.length c'] 44)).alloc (.cells #[.int .u64 0, .int .u64 0, .int .i64 0, .int .i64 0, .slice none 0 0] 44)) (w.heap.size + 1) 44 [.int .u64 f1.c, .int .u64 f1.su, .int .i64 f1.le, .int .i64 f1.gr, .slice A f1.bu.length c]) := Lib.hid (((Row.at_ (w := w.alloc _) (by simp)).alloc _).alloc _)
  have HR2 : Hid (Row ((((w.alloc (.cells #[.int .i64 l, .int .i64 h, .int .i64 d] 23)).alloc (.cells #[.int .u64 f1.c, .int .u64 f1.su, .int .i64 f1.le, .int .i64 f1.gr, .slice A f1.bu.length c] 44)).alloc (.cells #[.int .u64 f2.c, .int .u64 f2.su, .int .i64 f2.le, .int .i64 f2.gr, .slice B f2.bu.length c'] 44)).alloc (.cells #[.int .u64 0, .int .u64 0, .int .i64 0, .int .i64 0, .slice none 0 0] 44)) (w.heap.size + 1 + 1) 44 [.int .u64 f2.c, .int .u64 f2.su, .int .i64 f2.le, .int .i64 f2.gr, .slice B f2.bu.length c']) := Lib.hid ((Row.at_ (w := (w.alloc _).alloc _) (by simp)).alloc _)
  have HR3 : Hid (Row ((((w.alloc (.cells #[.int .i64 l, .int .i64 h, .int .i64 d] 23)).alloc (.cells #[.int .u64 f1.c, .int .u64 f1.su, .int .i64 f1.le, .int .i64 f1.gr, .slice A f1.bu.length c] 44)).alloc (.cells #[.int .u64 f2.c, .int .u64 f2.su, .int .i64 f2.le, .int .i64 f2.gr, .slice B f2.bu.length c'] 44)).alloc (.cells #[.int .u64 0, .int .u64 0, .int .i64 0, .int .i64 0, .slice none 0 0] 44)) (w.heap.size + 1 + 1 + 1) 44 [.int .u64 0, .int .u64 0, .int .i64 0, .int .i64 0, .slice none 0 0]) := Lib.hid (Row.at_ (w := ((w.alloc _).alloc _).alloc _) (by simp))
  clear hA hB hb0 h01 h02
  have hnb : (why == 0) = false := by simpa using hn
  have hnb2 : (why != 0) = true := by simpa using hn
  clear hn
  rcases hw with hw | ⟨hw1, hw⟩
  · have K1 : Hid (checkP l h d f1.bu f1.c f1.su f1.le f1.gr = why) := Lib.hid hw
    clear hw
    go_enter Try.func26, Try.ntmps26
    go_wp2_with (go_at_call 28; (with_reducible refine (refCheck_any (xs := f1.bu) HA.out hl1 H01.out).mono ?_); rw [K1.out]; rintro e w4 ⟨rfl, hb⟩; have PA1 := Lib.hid (HA.out.on hb); have PB1 := Lib.hid (HB.out.on hb); have LB1 := Lib.hid (HB0.out.trans (hb.mono HB0.out.size)); have Q01 := Lib.hid (HR0.out.below hb HR0.out.lt); have Q11 := Lib.hid (HR1.out.below hb HR1.out.lt); have Q21 := Lib.hid (HR2.out.below hb HR2.out.lt); have Q31 := Lib.hid (HR3.out.below hb HR3.out.lt); clear hb; have p0 := Q01.out.cell 0; have p1 := Q01.out.cell 1; have p2 := Q01.out.cell 2; obtain ⟨q0, q1, q2, q3, q4⟩ := Q11.out.five; obtain ⟨r0, r1, r2, r3, r4⟩ := Q21.out.five; obtain ⟨t0, t1, t2, t3, t4⟩ := Q31.out.five; have ql := Q11.out.lt; have rl := Q21.out.lt; have tl := Q31.out.lt; have tf := Q31.out.free)
    refine bodyPost_ret (v := .tuple #[.agg #[.int .u64 0, .int .u64 0, .int .i64 0, .int .i64 0, .slice none 0 0], .int .i64 why]) (by simp [results, Try.results26, go_sem, t0, t1, t2, t3, t4]) rfl ⟨rfl, ?_⟩
    have hlow := LB1.out
    repeat (first | (with_reducible exact hlow) | refine Below.setCell ?_ (by dsimp only; omega) _)
  · have K1 : Hid (checkP l h d f1.bu f1.c f1.su f1.le f1.gr = 0) := Lib.hid hw1
    have K2 : Hid (checkP l h d f2.bu f2.c f2.su f2.le f2.gr = why) := Lib.hid hw
    clear hw hw1
    go_enter Try.func26, Try.ntmps26
    go_wp2_with (first | (go_at_call 28; (with_reducible refine (refCheck_any (xs := f1.bu) HA.out hl1 H01.out).mono ?_); rw [K1.out]; rintro e w4 ⟨rfl, hb⟩; have PA1 := Lib.hid (HA.out.on hb); have PB1 := Lib.hid (HB.out.on hb); have LB1 := Lib.hid (HB0.out.trans (hb.mono HB0.out.size)); have Q01 := Lib.hid (HR0.out.below hb HR0.out.lt); have Q11 := Lib.hid (HR1.out.below hb HR1.out.lt); have Q21 := Lib.hid (HR2.out.below hb HR2.out.lt); have Q31 := Lib.hid (HR3.out.below hb HR3.out.lt); clear hb; have p0 := Q01.out.cell 0; have p1 := Q01.out.cell 1; have p2 := Q01.out.cell 2; obtain ⟨q0, q1, q2, q3, q4⟩ := Q11.out.five; obtain ⟨r0, r1, r2, r3, r4⟩ := Q21.out.five; obtain ⟨t0, t1, t2, t3, t4⟩ := Q31.out.five; have ql := Q11.out.lt; have rl := Q21.out.lt; have tl := Q31.out.lt; have tf := Q31.out.free) | (go_at_call 28; (with_reducible refine (refCheck_any (xs := f2.bu) PB1.out hl2 H02.out).mono ?_); rw [K2.out]; rintro e w5 ⟨rfl, hb⟩; have PA2 := Lib.hid (PA1.out.on hb); have PB2 := Lib.hid (PB1.out.on hb); have LB2 := Lib.hid (LB1.out.trans (hb.mono LB1.out.size)); have Q02 := Lib.hid (Q01.out.below hb Q01.out.lt); have Q12 := Lib.hid (Q11.out.below hb Q11.out.lt); have Q22 := Lib.hid (Q21.out.below hb Q21.out.lt); have Q32 := Lib.hid (Q31.out.below hb Q31.out.lt); clear hb; have p0 := Q02.out.cell 0; have p1 := Q02.out.cell 1; have p2 := Q02.out.cell 2; obtain ⟨q0, q1, q2, q3, q4⟩ := Q12.out.five; obtain ⟨r0, r1, r2, r3, r4⟩ := Q22.out.five; obtain ⟨t0, t1, t2, t3, t4⟩ := Q32.out.five; have ql := Q12.out.lt; have rl := Q22.out.lt; have tl := Q32.out.lt; have tf := Q32.out.free))
    refine bodyPost_ret (v := .tuple #[.agg #[.int .u64 0, .int .u64 0, .int .i64 0, .int .i64 0, .slice none 0 0], .int .i64 why]) (by simp [results, Try.results26, go_sem, t0, t1, t2, t3, t4]) rfl ⟨rfl, ?_⟩
    have hlow := LB2.out
    repeat (first | (with_reducible exact hlow) | refine Below.setCell ?_ (by dsimp only; omega) _)
theorem addU_snoc {xs ys : List Int} {k : Nat} {x y : Int} (hx : xs[k]? = some x) (hy : ys[k]? = some y) : u64s ((addU xs ys).take k) ++ [.int .u64 (IntKind.u64.wrap (x + y))] = u64s ((addU xs ys).take (k + 1)) := by
  have hz : (addU xs ys)[k]? = some (IntKind.u64.wrap (x + y)) := by simp [addU, List.getElem?_zipWith, hx, hy]
  rw [List.take_add_one, hz]
  simp [u64s]
theorem mids_start {w5 : World} {M G : Int} (h1 : Row w5 (w.heap.size + 1) 44 [.int .u64 f1.c, .int .u64 f1.su, .int .i64 f1.le, .int .i64 f1.gr, .slice A f1.bu.length c]) (h2 : Row w5 (w.heap.size + 1 + 1) 44 [.int .u64 f2.c, .int .u64 f2.su, .int .i64 f2.le, .int .i64 f2.gr, .slice B f2.bu.length c']) (h3 : Row w5 (w.heap.size + 1 + 1 + 1) 44 [.int .u64 0, .int .u64 0, .int .i64 0, .int .i64 0, .slice none 0 0]) (hb : Below w.heap.size w w5) :
    RefMid w f1 f2 A B c c' M G w5.heap.size (.slice none 0 0) 0 (w5.alloc (.cells #[.int .u64 (IntKind.u64.wrap (f1.c + f2.c)), .int .u64 (IntKind.u64.wrap (f1.su + f2.su)), .int .i64 M, .int .i64 G, .slice none 0 0] 44)) :=
  ⟨h1.alloc _, h2.alloc _, h3.alloc _, Row.new _ _ _, World.ownsRow_nil _ _ _ _, h3.lt, hb.alloc hb.size _⟩
theorem RefMid.grow {wr wa w1 : World} {M G : Int} {bO k : Nat} {v v' : Value} {x : Int} (hK : RefMid w f1 f2 A B c c' M G bO v k wr) (hb : Below wr.heap.size wr wa) (hT : u64s ((addU f1.bu f2.bu).take k) ++ [.int .u64 x] = u64s ((addU f1.bu f2.bu).take (k + 1))) (ho : w1.ownsRow w.heap.size 38 1 v' (k + 1) (u64s ((addU f1.bu f2.bu).take k) ++ [.int .u64 x])) (hg : wa.grownBy w1 v.ownBlock) :
    (Row w1 (w.heap.size + 1) 44 [.int .u64 f1.c, .int .u64 f1.su, .int .i64 f1.le, .int .i64 f1.gr, .slice A f1.bu.length c] ∧ Row w1 (w.heap.size + 1 + 1) 44 [.int .u64 f2.c, .int .u64 f2.su, .int .i64 f2.le, .int .i64 f2.gr, .slice B f2.bu.length c'] ∧ Row w1 bO 44 [.int .u64 (IntKind.u64.wrap (f1.c + f2.c)), .int .u64 (IntKind.u64.wrap (f1.su + f2.su)), .int .i64 M, .int .i64 G, v] ∧ ∀ (a : Addr) (u : Value), a.block < w.heap.size → wr.cell? a = some u → w1.cell? a = some u) ∧ RefMid w f1 f2 A B c c' M G bO v' (k + 1) (w1.setCell ⟨bO, 4, none⟩ v') := by
  have hoA : wa.ownsRow w.heap.size 38 1 v k (u64s ((addU f1.bu f2.bu).take k)) := own_part hK.own (Part.of_below hb (Nat.le_refl _) []) (by simp)
  have nm : ∀ {b : Nat} {t : TypeId} {lv : List Value}, Row wa b t lv → 38 ≠ t → some b ≠ v.ownBlock := fun hr ht => own_not_in hoA hr ht
  have k1 := hK.x.below hb hK.x.lt
  have k2 := hK.y.below hb hK.y.lt
  have k3 := hK.res.below hb hK.res.lt
  have k4 := hK.box.below hb hK.box.lt
  have g1 := k1.grown hg (nm k1 (by decide))
  have g2 := k2.grown hg (nm k2 (by decide))
  have g3 := k3.grown hg (nm k3 (by decide))
  have g4 := k4.grown hg (nm k4 (by decide))
  have hlo := hK.lo
  have hP : Part [bO] w1 (w1.setCell ⟨bO, 4, none⟩ v') := (Part.refl [bO] w1).set (by simp) _
  rw [hT] at ho
  have hsz := hK.low.size
  have hb1 := (hK.low.trans (hb.mono hsz)).grown hg (Nat.le_trans hsz hb.size) (own_from hK.own)
  refine ⟨⟨g1, g2, g4, fun a u ha hu => ?_⟩, g1.far (by dsimp only; omega) _, g2.far (by dsimp only; omega) _, g3.far (by dsimp only; omega) _, Row.of_eq (g4.set 4 _) rfl, own_part ho hP (fun q hq => by simpa using own_off ho g4 (by decide) q hq), hlo, hb1.setCell (by dsimp only; omega) _⟩
  exact hg.cell ((hb.cell (p := a) (Nat.lt_of_lt_of_le ha hsz)).trans hu) (fun e => by have := own_from hK.own a.block e.symm; omega)
theorem refMerge_y0a (hA : Ext .u64 w A f1.bu) (hB : Ext .u64 w B f2.bu) (hl1 : f1.bu.length ≤ 17592186044416) (h01 : ∀ (j : Nat) (x : Int), f1.bu[j]? = some x → 0 ≤ x) (h02 : ∀ (j : Nat) (x : Int), f2.bu[j]? = some x → 0 ≤ x) (hw1 : checkS l h d f1 = 0) (hw2 : checkS l h d f2 = 0) (ha : f1.le < 0) (he : f1.gr < f2.gr) :
    Calls Try.prog 26 #[.agg #[.int .i64 l, .int .i64 h, .int .i64 d], .agg #[.int .u64 f1.c, .int .u64 f1.su, .int .i64 f1.le, .int .i64 f1.gr, .slice A f1.bu.length c], .agg #[.int .u64 f2.c, .int .u64 f2.su, .int .i64 f2.le, .int .i64 f2.gr, .slice B f2.bu.length c']] w (RefMerged w f1 f2) := by
  obtain ⟨i0, hi, hz0, hz1, hz2⟩ := info_parts info29
  have HAW := Lib.hid hA
  have HBW := Lib.hid hB
  have HLW := Lib.hid hl1
  have hlen : f1.bu.length = f2.bu.length := by rw [(check_len hw1).2, (check_len hw2).2]
  have hl2 : f2.bu.length ≤ 17592186044416 := by omega
  have hl1 : f1.bu.length ≤ 17592186044416 := by omega
  have HLN := Lib.hid hlen
  have HM : Hid (lem f1.le f2.le = f2.le) := Lib.hid (by unfold lem; rw [if_pos (.inl ha)])
  have HG : Hid (max f1.gr f2.gr = f2.gr) := Lib.hid (by omega)
  have hb0 : Below w.heap.size w ((((w.alloc (.cells #[.int .i64 l, .int .i64 h, .int .i64 d] 23)).alloc (.cells #[.int .u64 f1.c, .int .u64 f1.su, .int .i64 f1.le, .int .i64 f1.gr, .slice A f1.bu.length c] 44)).alloc (.cells #[.int .u64 f2.c, .int .u64 f2.su, .int .i64 f2.le, .int .i64 f2.gr, .slice B f2.bu.length c'] 44)).alloc (.cells #[.int .u64 0, .int .u64 0, .int .i64 0, .int .i64 0, .slice none 0 0] 44)) := by repeat (first | (with_reducible exact Below.refl _ _) | refine Below.alloc ?_ (by simp; try omega) _)
  have HB0 := Lib.hid hb0
  have HA := Lib.hid (hA.on hb0)
  have HB := Lib.hid (hB.on hb0)
  have H01 := Lib.hid h01
  have H02 := Lib.hid h02
  have HR0 : Hid (Row ((((w.alloc (.cells #[.int .i64 l, .int .i64 h, .int .i64 d] 23)).alloc (.cells #[.int .u64 f1.c, .int .u64 f1.su, .int .i64 f1.le, .int .i64 f1.gr, .slice A f1.bu.length c] 44)).alloc (.cells #[.int .u64 f2.c, .int .u64 f2.su, .int .i64 f2.le, .int .i64 f2.gr, .slice B f2.bu.length c'] 44)).alloc (.cells #[.int .u64 0, .int .u64 0, .int .i64 0, .int .i64 0, .slice none 0 0] 44)) w.heap.size 23 [.int .i64 l, .int .i64 h, .int .i64 d]) := Lib.hid ((((Row.new w _ _).alloc _).alloc _).alloc _)
  have HR1 : Hid (Row ((((w.alloc (.cells #[.int .i64 l, .int .i64 h, .int .i64 d] 23)).alloc (.cells #[.int .u64 f1.c, .int .u64 f1.su, .int .i64 f1.le, .int .i64 f1.gr, .slice A f1.bu.length c] 44)).alloc (.cells #[.int .u64 f2.c, .int .u64 f2.su, .int .i64 f2.le, .int .i64 f2.gr, .slice B f2.bu.length c'] 44)).alloc (.cells #[.int .u64 0, .int .u64 0, .int .i64 0, .int .i64 0, .slice none 0 0] 44)) (w.heap.size + 1) 44 [.int .u64 f1.c, .int .u64 f1.su, .int .i64 f1.le, .int .i64 f1.gr, .slice A f1.bu.length c]) := Lib.hid (((Row.at_ (w := w.alloc _) (by simp)).alloc _).alloc _)
  have HR2 : Hid (Row ((((w.alloc (.cells #[.int .i64 l, .int .i64 h, .int .i64 d] 23)).alloc (.cells #[.int .u64 f1.c, .int .u64 f1.su, .int .i64 f1.le, .int .i64 f1.gr, .slice A f1.bu.length c] 44)).alloc (.cells #[.int .u64 f2.c, .int .u64 f2.su, .int .i64 f2.le, .int .i64 f2.gr, .slice B f2.bu.length c'] 44)).alloc (.cells #[.int .u64 0, .int .u64 0, .int .i64 0, .int .i64 0, .slice none 0 0] 44)) (w.heap.size + 1 + 1) 44 [.int .u64 f2.c, .int .u64 f2.su, .int .i64 f2.le, .int .i64 f2.gr, .slice B f2.bu.length c']) := Lib.hid ((Row.at_ (w := (w.alloc _).alloc _) (by simp)).alloc _)
  have HR3 : Hid (Row ((((w.alloc (.cells #[.int .i64 l, .int .i64 h, .int .i64 d] 23)).alloc (.cells #[.int .u64 f1.c, .int .u64 f1.su, .int .i64 f1.le, .int .i64 f1.gr, .slice A f1.bu.length c] 44)).alloc (.cells #[.int .u64 f2.c, .int .u64 f2.su, .int .i64 f2.le, .int .i64 f2.gr, .slice B f2.bu.length c'] 44)).alloc (.cells #[.int .u64 0, .int .u64 0, .int .i64 0, .int .i64 0, .slice none 0 0] 44)) (w.heap.size + 1 + 1 + 1) 44 [.int .u64 0, .int .u64 0, .int .i64 0, .int .i64 0, .slice none 0 0]) := Lib.hid (Row.at_ (w := ((w.alloc _).alloc _).alloc _) (by simp))
  clear hA hB hb0 h01 h02
  have K1 : Hid (checkP l h d f1.bu f1.c f1.su f1.le f1.gr = 0) := Lib.hid hw1
  have K2 : Hid (checkP l h d f2.bu f2.c f2.su f2.le f2.gr = 0) := Lib.hid hw2
  clear hw1 hw2 hlen
  go_enter Try.func26, Try.ntmps26
  go_wp2_with (first | (go_at_call 28; (with_reducible refine (refCheck_any (xs := f1.bu) HA.out hl1 H01.out).mono ?_); rw [K1.out]; rintro e w4 ⟨rfl, hb⟩; have PA1 := Lib.hid (HA.out.on hb); have PB1 := Lib.hid (HB.out.on hb); have LB1 := Lib.hid (HB0.out.trans (hb.mono HB0.out.size)); have Q01 := Lib.hid (HR0.out.below hb HR0.out.lt); have Q11 := Lib.hid (HR1.out.below hb HR1.out.lt); have Q21 := Lib.hid (HR2.out.below hb HR2.out.lt); have Q31 := Lib.hid (HR3.out.below hb HR3.out.lt); clear hb; have p0 := Q01.out.cell 0; have p1 := Q01.out.cell 1; have p2 := Q01.out.cell 2; obtain ⟨q0, q1, q2, q3, q4⟩ := Q11.out.five; obtain ⟨r0, r1, r2, r3, r4⟩ := Q21.out.five; obtain ⟨t0, t1, t2, t3, t4⟩ := Q31.out.five; have ql := Q11.out.lt; have rl := Q21.out.lt; have tl := Q31.out.lt; have tf := Q31.out.free) | (go_at_call 28; (with_reducible refine (refCheck_any (xs := f2.bu) PB1.out hl2 H02.out).mono ?_); rw [K2.out]; rintro e w5 ⟨rfl, hb⟩; have PA2 := Lib.hid (PA1.out.on hb); have PB2 := Lib.hid (PB1.out.on hb); have LB2 := Lib.hid (LB1.out.trans (hb.mono LB1.out.size)); have Q02 := Lib.hid (Q01.out.below hb Q01.out.lt); have Q12 := Lib.hid (Q11.out.below hb Q11.out.lt); have Q22 := Lib.hid (Q21.out.below hb Q21.out.lt); have Q32 := Lib.hid (Q31.out.below hb Q31.out.lt); clear hb; have p0 := Q02.out.cell 0; have p1 := Q02.out.cell 1; have p2 := Q02.out.cell 2; obtain ⟨q0, q1, q2, q3, q4⟩ := Q12.out.five; obtain ⟨r0, r1, r2, r3, r4⟩ := Q22.out.five; obtain ⟨t0, t1, t2, t3, t4⟩ := Q32.out.five; have ql := Q12.out.lt; have rl := Q22.out.lt; have tl := Q32.out.lt; have tf := Q32.out.free))
  go_loopw [10] (fun i wr => ∃ (k : Nat) (v : Value), k ≤ f1.bu.length ∧ i = .int .i64 k ∧ RefMid w f1 f2 A B c c' f2.le f2.gr w5.heap.size v k wr) (fun i _ => f1.bu.length - (intOf i).toNat)
  case atStart => exact ⟨0, _, Nat.zero_le _, rfl, mids_start Q12.out Q22.out Q32.out LB2.out⟩
  case round =>
    obtain ⟨k, v, hk, rfl, hK⟩ := hrel
    have HK := Lib.hid hK
    obtain ⟨q0, q1, q2, q3, q4⟩ := hK.x.five
    obtain ⟨r0, r1, r2, r3, r4⟩ := hK.y.five
    obtain ⟨e0, e1, e2, e3, e4⟩ := hK.box.five
    have ql := hK.x.lt
    have rl := hK.y.lt
    have el := hK.box.lt
    have ef := hK.box.free
    clear hK
    by_cases hlt : k < f1.bu.length
    · obtain ⟨x, hx⟩ : ∃ x, f1.bu[k]? = some x := ⟨f1.bu[k], List.getElem?_eq_getElem hlt⟩
      obtain ⟨y, hy⟩ : ∃ y, f2.bu[k]? = some y := ⟨f2.bu[k]'(by have := HLN.out; omega), List.getElem?_eq_getElem (by have := HLN.out; omega)⟩
      obtain ⟨b1, o1, hA1, hb1x, _⟩ := HAW.out k x hx
      obtain ⟨b1', o1', hA1', _, hcx⟩ := (HAW.out.on HK.out.low) k x hx
      subst hA1
      cases hA1'
      obtain ⟨b2, o2, hB1, hb2x, _⟩ := HBW.out k y hy
      obtain ⟨b2', o2', hB1', _, hcy⟩ := (HBW.out.on HK.out.low) k y hy
      subst hB1
      cases hB1'
      have HT := Lib.hid (addU_snoc hx hy)
      have H3 : Hid (k + 1 ≤ maxLen) := Lib.hid (by unfold maxLen; have := HLW.out; omega)
      have H4 : Hid ((k + 1) * 8 ≤ 140737488355328) := Lib.hid (by have := HLW.out; omega)
      have H5 : Hid (w.heap.size ≤ (wr.alloc (.cells #[.int .u64 (IntKind.u64.wrap (x + y))] 38)).heap.size) := Lib.hid (by have := HK.out.low.size; simp; omega)
      have hlt' : (k : Int) < (f1.bu.length : Int) := by omega
      have hlt2 : (k : Int) < (f2.bu.length : Int) := by have := HLN.out; omega
      clear hx hy
      obtain ⟨b1x, b2x⟩ : b1 < w.heap.size ∧ b2 < w.heap.size := ⟨hb1x, hb2x⟩
      have HC1 := Lib.hid hcx
      have bx1 : b1 < wr.heap.size := Nat.lt_of_lt_of_le hb1x HK.out.low.size
      have bx2 : b2 < wr.heap.size := Nat.lt_of_lt_of_le hb2x HK.out.low.size
      have hbA : Below wr.heap.size wr (wr.alloc (.cells #[.int .u64 (IntKind.u64.wrap (x + y))] 38)) := (Below.refl _ _).alloc (Nat.le_refl _) _
      have y1 : wr.drew.cell? ⟨w.heap.size + 1, 4, none⟩ = some (.slice (some ⟨b1, o1, none⟩) f1.bu.length c) := q4
      have y2 : wr.drew.cell? ⟨w.heap.size + 1 + 1, 4, none⟩ = some (.slice (some ⟨b2, o2, none⟩) f2.bu.length c') := r4
      have y3 : wr.drew.cell? ⟨w5.heap.size, 4, none⟩ = some v := e4
      have y4 : wr.drew.cell? ⟨b1, o1 + k, none⟩ = some (.int .u64 x) := hcx
      have y5 : wr.drew.cell? ⟨b2, o2 + k, none⟩ = some (.int .u64 y) := hcy
      have z1 : (wr.alloc (.cells #[.int .u64 (IntKind.u64.wrap (x + y))] 38)).drew.cell? ⟨w.heap.size + 1, 4, none⟩ = some (.slice (some ⟨b1, o1, none⟩) f1.bu.length c) := (hbA.cell (p := ⟨w.heap.size + 1, 4, none⟩) ql).trans q4
      have z2 : (wr.alloc (.cells #[.int .u64 (IntKind.u64.wrap (x + y))] 38)).drew.cell? ⟨w.heap.size + 1 + 1, 4, none⟩ = some (.slice (some ⟨b2, o2, none⟩) f2.bu.length c') := (hbA.cell (p := ⟨w.heap.size + 1 + 1, 4, none⟩) rl).trans r4
      have z3 : (wr.alloc (.cells #[.int .u64 (IntKind.u64.wrap (x + y))] 38)).drew.cell? ⟨w5.heap.size, 4, none⟩ = some v := (hbA.cell (p := ⟨w5.heap.size, 4, none⟩) el).trans e4
      have z4 : (wr.alloc (.cells #[.int .u64 (IntKind.u64.wrap (x + y))] 38)).drew.cell? ⟨b1, o1 + k, none⟩ = some (.int .u64 x) := (hbA.cell (p := ⟨b1, o1 + k, none⟩) bx1).trans hcx
      have z5 : (wr.alloc (.cells #[.int .u64 (IntKind.u64.wrap (x + y))] 38)).drew.cell? ⟨b2, o2 + k, none⟩ = some (.int .u64 y) := (hbA.cell (p := ⟨b2, o2 + k, none⟩) bx2).trans hcy
      clear hbA
      have HC2 := Lib.hid hcy
      go_wp2_with fail
      refine wp_region_held_drew (S := (fun w' => w'.cell? ⟨w.heap.size + 1, 4, none⟩ = some (.slice (some ⟨b1, o1, none⟩) f1.bu.length c) ∧ w'.cell? ⟨w.heap.size + 1 + 1, 4, none⟩ = some (.slice (some ⟨b2, o2, none⟩) f2.bu.length c') ∧ w'.cell? ⟨b1, o1 + k, none⟩ = some (.int .u64 x) ∧ w'.cell? ⟨b2, o2 + k, none⟩ = some (.int .u64 y))) (by kernel_rfl) ?_ (fun hHeld0 => ?_)
      · try dsimp only
        exact ⟨y1, y2, y4, y5⟩
      refine wpAnyH_take (i := 0) (oi := { dst := some 71, op := Op.fieldAddr 44 (Operand.tmp 9) 4, type := 0, pos := "ref.go:217", after := #[], guard := none }) (v := ?_) rfl (by kernel_rfl) (by kernel_rfl) (by kernel_rfl) (fun _ _ _ h => h) (Or.inl ⟨by rfl, ?_⟩) (by assumption) ?_
      rotate_left
      · intro wq hSq
        try dsimp only at hSq
        go_simp
        try (with_reducible rfl)
      try simp only [Act.put, List.setIfInBounds_toArray, List.set_cons_zero, List.set_cons_succ]
      refine wpAnyH_take (i := 2) (oi := { dst := some 73, op := Op.fieldAddr 44 (Operand.tmp 4) 4, type := 0, pos := "ref.go:217", after := #[], guard := none }) (v := ?_) rfl (by kernel_rfl) (by kernel_rfl) (by kernel_rfl) (fun _ _ _ h => h) (Or.inl ⟨by rfl, ?_⟩) (by assumption) ?_
      rotate_left
      · intro wq hSq
        try dsimp only at hSq
        go_simp
        try (with_reducible rfl)
      try simp only [Act.put, List.setIfInBounds_toArray, List.set_cons_zero, List.set_cons_succ]
      refine wpAnyH_take (i := 3) (oi := { dst := some 74, op := Op.load 42 (Operand.tmp 73), type := 42, pos := "ref.go:217", after := #[{ on := 2, ground := Ground.data }], guard := none }) (v := ?_) rfl (by kernel_rfl) (by kernel_rfl) (by kernel_rfl) (fun _ _ _ h => h) (Or.inl ⟨by rfl, ?_⟩) (by assumption) ?_
      rotate_left
      · intro wq hSq
        try dsimp only at hSq
        go_simp
        try (with_reducible rfl)
      try simp only [Act.put, List.setIfInBounds_toArray, List.set_cons_zero, List.set_cons_succ]
      refine wpAnyH_take (i := 4) (oi := { dst := some 75, op := Op.move (Operand.tmp 10), type := 3, pos := "ref.go:217", after := #[], guard := none }) (v := ?_) rfl (by kernel_rfl) (by kernel_rfl) (by kernel_rfl) (fun _ _ _ h => h) (Or.inl ⟨by rfl, ?_⟩) (by assumption) ?_
      rotate_left
      · intro wq hSq
        try dsimp only at hSq
        go_simp
        try (with_reducible rfl)
      try simp only [Act.put, List.setIfInBounds_toArray, List.set_cons_zero, List.set_cons_succ]
      refine wpAnyH_take (i := 5) (oi := { dst := some 76, op := Op.indexAddr 42 (Operand.tmp 74) (Operand.tmp 75), type := 0, pos := "ref.go:217", after := #[{ on := 3, ground := Ground.data }, { on := 4, ground := Ground.data }], guard := none }) (v := ?_) rfl (by kernel_rfl) (by kernel_rfl) (by kernel_rfl) (fun _ _ _ h => h) (Or.inl ⟨by rfl, ?_⟩) (by assumption) ?_
      rotate_left
      · intro wq hSq
        try dsimp only at hSq
        go_simp
        try (with_reducible rfl)
      try simp only [Act.put, List.setIfInBounds_toArray, List.set_cons_zero, List.set_cons_succ]
      refine wpAnyH_take (i := 6) (oi := { dst := some 77, op := Op.load 38 (Operand.tmp 76), type := 38, pos := "ref.go:217", after := #[{ on := 5, ground := Ground.data }], guard := none }) (v := ?_) rfl (by kernel_rfl) (by kernel_rfl) (by kernel_rfl) (fun _ _ _ h => h) (Or.inl ⟨by rfl, ?_⟩) (by assumption) ?_
      rotate_left
      · intro wq hSq
        try dsimp only at hSq
        go_simp
        try (with_reducible rfl)
      try simp only [Act.put, List.setIfInBounds_toArray, List.set_cons_zero, List.set_cons_succ]
      refine wpAnyH_take (i := 7) (oi := { dst := some 78, op := Op.fieldAddr 44 (Operand.tmp 5) 4, type := 0, pos := "ref.go:217", after := #[], guard := none }) (v := ?_) rfl (by kernel_rfl) (by kernel_rfl) (by kernel_rfl) (fun _ _ _ h => h) (Or.inl ⟨by rfl, ?_⟩) (by assumption) ?_
      rotate_left
      · intro wq hSq
        try dsimp only at hSq
        go_simp
        try (with_reducible rfl)
      try simp only [Act.put, List.setIfInBounds_toArray, List.set_cons_zero, List.set_cons_succ]
      refine wpAnyH_take (i := 8) (oi := { dst := some 79, op := Op.load 42 (Operand.tmp 78), type := 42, pos := "ref.go:217", after := #[{ on := 7, ground := Ground.data }], guard := none }) (v := ?_) rfl (by kernel_rfl) (by kernel_rfl) (by kernel_rfl) (fun _ _ _ h => h) (Or.inl ⟨by rfl, ?_⟩) (by assumption) ?_
      rotate_left
      · intro wq hSq
        try dsimp only at hSq
        go_simp
        try (with_reducible rfl)
      try simp only [Act.put, List.setIfInBounds_toArray, List.set_cons_zero, List.set_cons_succ]
      refine wpAnyH_take (i := 9) (oi := { dst := some 80, op := Op.move (Operand.tmp 10), type := 3, pos := "ref.go:217", after := #[], guard := none }) (v := ?_) rfl (by kernel_rfl) (by kernel_rfl) (by kernel_rfl) (fun _ _ _ h => h) (Or.inl ⟨by rfl, ?_⟩) (by assumption) ?_
      rotate_left
      · intro wq hSq
        try dsimp only at hSq
        go_simp
        try (with_reducible rfl)
      try simp only [Act.put, List.setIfInBounds_toArray, List.set_cons_zero, List.set_cons_succ]
      refine wpAnyH_take (i := 10) (oi := { dst := some 81, op := Op.indexAddr 42 (Operand.tmp 79) (Operand.tmp 80), type := 0, pos := "ref.go:217", after := #[{ on := 8, ground := Ground.data }, { on := 9, ground := Ground.data }], guard := none }) (v := ?_) rfl (by kernel_rfl) (by kernel_rfl) (by kernel_rfl) (fun _ _ _ h => h) (Or.inl ⟨by rfl, ?_⟩) (by assumption) ?_
      rotate_left
      · intro wq hSq
        try dsimp only at hSq
        go_simp
        try (with_reducible rfl)
      try simp only [Act.put, List.setIfInBounds_toArray, List.set_cons_zero, List.set_cons_succ]
      refine wpAnyH_take (i := 11) (oi := { dst := some 82, op := Op.load 38 (Operand.tmp 81), type := 38, pos := "ref.go:217", after := #[{ on := 10, ground := Ground.data }], guard := none }) (v := ?_) rfl (by kernel_rfl) (by kernel_rfl) (by kernel_rfl) (fun _ _ _ h => h) (Or.inl ⟨by rfl, ?_⟩) (by assumption) ?_
      rotate_left
      · intro wq hSq
        try dsimp only at hSq
        go_simp
        try (with_reducible rfl)
      try simp only [Act.put, List.setIfInBounds_toArray, List.set_cons_zero, List.set_cons_succ]
      refine wpAnyH_take (i := 12) (oi := { dst := some 83, op := Op.binOp BinOp.add 38 (Operand.tmp 77) (Operand.tmp 82) 38, type := 38, pos := "ref.go:217", after := #[{ on := 6, ground := Ground.data }, { on := 11, ground := Ground.data }], guard := none }) (v := ?_) rfl (by kernel_rfl) (by kernel_rfl) (by kernel_rfl) (fun _ _ _ h => h) (Or.inl ⟨by rfl, ?_⟩) (by assumption) ?_
      rotate_left
      · intro wq hSq
        try dsimp only at hSq
        go_simp
        try (with_reducible rfl)
      try simp only [Act.put, List.setIfInBounds_toArray, List.set_cons_zero, List.set_cons_succ]
      refine wpAnyH_ready (rs := [1, 13]) (by kernel_rfl) (by simp) ?_
      refine AllReadyH.cons (o := { dst := some 72, op := Op.load 42 (Operand.tmp 71), type := 42, pos := "ref.go:217", after := #[{ on := 0, ground := Ground.data }], guard := none }) rfl (fun K hK => ?_) (AllReadyH.cons (o := { dst := some 84, op := Op.buildSlice 42 1 #[(0, Operand.tmp 83)], type := 42, pos := "ref.go:217", after := #[{ on := 12, ground := Ground.data }], guard := none }) rfl (fun K hK => ?_) AllReadyH.nil)
      · go_simp
        refine hK.out _ _ (by exact ⟨y1, y2, y4, y5⟩) (fun hHeldA => ?_)
        clear hK K hHeld0
        try simp only [Act.put, List.setIfInBounds_toArray, List.set_cons_zero, List.set_cons_succ]
        refine wpAnyH_ready (rs := [13]) (by kernel_rfl) (by simp) ?_
        refine AllReadyH.cons (o := { dst := some 84, op := Op.buildSlice 42 1 #[(0, Operand.tmp 83)], type := 42, pos := "ref.go:217", after := #[{ on := 12, ground := Ground.data }], guard := none }) rfl (fun K hK => ?_) AllReadyH.nil
        go_simp
        refine hK.out _ _ (by exact ⟨z1, z2, z4, z5⟩) (fun hHeldB => ?_)
        clear hK K hHeldA
        try simp only [Act.put, List.setIfInBounds_toArray, List.set_cons_zero, List.set_cons_succ]
        refine wpAnyH_ready (rs := [14]) (by kernel_rfl) (by simp) ?_
        refine AllReadyH.cons (o := { dst := some 85, op := Op.call { callee := Callee.builtin Builtin.append, args := #[Operand.tmp 72, Operand.tmp 84], argTypes := #[42, 42] }, type := 42, pos := "ref.go:217", after := #[{ on := 1, ground := Ground.data }, { on := 13, ground := Ground.data }], guard := none }) rfl (fun K hK => ?_) AllReadyH.nil
        refine step_append_lies _ (by rfl) _ _ _ (by rfl) w.heap.size 38 i0 _ 1 8 Try.underlying42 hi hz0 hz1 hz2 rfl (by omega) _ k (u64s ((addU f1.bu f2.bu).take k)) (by rfl) (own_part HK.out.own (Part.of_below (by first | exact ((Below.refl _ _).alloc (Nat.le_refl _) _).drew | exact ((Below.refl _ _).drew).alloc (Nat.le_refl _) _ | exact (Below.refl _ _).alloc (Nat.le_refl _) _) (Nat.le_refl _) []) (by simp)) ⟨wr.heap.size, 0, none⟩ 1 1 [.int .u64 (IntKind.u64.wrap (x + y))] (by rfl) (by rfl) (World.news_of_block (cs := #[.int .u64 (IntKind.u64.wrap (x + y))]) (t := 38) (fr := (0, 0)) (heap_alloc_new wr _)) (by simp [Value.oneCell']) (by omega) H3.out H4.out (by have := H5.out; simp; omega) (wr.heap.size + 1) (by simp) ?_; intro gg gcap w6 hown6 hgr6 hat6 hlt6; have HK1 := Lib.hid (HK.out.grow (by first | exact ((Below.refl _ _).alloc (Nat.le_refl _) _).drew | exact ((Below.refl _ _).drew).alloc (Nat.le_refl _) _ | exact (Below.refl _ _).alloc (Nat.le_refl _) _) HT.out hown6 hgr6); have v1 : w6.cell? ⟨w.heap.size + 1, 4, none⟩ = some (.slice (some ⟨b1, o1, none⟩) f1.bu.length c) := HK1.out.1.1.cell 4; have v2 : w6.cell? ⟨w.heap.size + 1 + 1, 4, none⟩ = some (.slice (some ⟨b2, o2, none⟩) f2.bu.length c') := HK1.out.1.2.1.cell 4; have v3 : w6.cell? ⟨w5.heap.size, 4, none⟩ = some v := HK1.out.1.2.2.1.cell 4; have v4 : w6.cell? ⟨b1, o1 + k, none⟩ = some (.int .u64 x) := HK1.out.1.2.2.2 ⟨b1, o1 + k, none⟩ _ b1x HC1.out; have v5 : w6.cell? ⟨b2, o2 + k, none⟩ = some (.int .u64 y) := HK1.out.1.2.2.2 ⟨b2, o2 + k, none⟩ _ b2x HC2.out; have gl := HK1.out.1.2.2.1.lt; have gf := HK1.out.1.2.2.1.free; have nO1 : w5.heap.size ≠ w.heap.size + 1 := (by have := HK.out.lo; omega); have nO2 : w5.heap.size ≠ w.heap.size + 1 + 1 := (by have := HK.out.lo; omega); have nO3 : w5.heap.size ≠ b1 := (by have := HK.out.lo; omega); have nO4 : w5.heap.size ≠ b2 := (by have := HK.out.lo; omega); have s1 := (World.cell?_setCell_far w6 ⟨w5.heap.size, 4, none⟩ ⟨w.heap.size + 1, 4, none⟩ (.slice (some ⟨gg, 0, none⟩) (k + 1) gcap) nO1).trans v1; have s2 := (World.cell?_setCell_far w6 ⟨w5.heap.size, 4, none⟩ ⟨w.heap.size + 1 + 1, 4, none⟩ (.slice (some ⟨gg, 0, none⟩) (k + 1) gcap) nO2).trans v2; have s4 := (World.cell?_setCell_far w6 ⟨w5.heap.size, 4, none⟩ ⟨b1, o1 + k, none⟩ (.slice (some ⟨gg, 0, none⟩) (k + 1) gcap) nO3).trans v4; have s5 := (World.cell?_setCell_far w6 ⟨w5.heap.size, 4, none⟩ ⟨b2, o2 + k, none⟩ (.slice (some ⟨gg, 0, none⟩) (k + 1) gcap) nO4).trans v5; clear hown6 hgr6 hat6
        refine hK.out _ _ (by exact ⟨v1, v2, v4, v5⟩) (fun hHeldF => ?_)
        clear hK K hHeldB
        try simp only [Act.put, List.setIfInBounds_toArray, List.set_cons_zero, List.set_cons_succ]
        refine wpAnyH_take (i := 15) (oi := { dst := some 86, op := Op.fieldAddr 44 (Operand.tmp 9) 4, type := 0, pos := "ref.go:217", after := #[{ on := 0, ground := Ground.phase }, { on := 1, ground := Ground.phase }, { on := 2, ground := Ground.phase }, { on := 3, ground := Ground.phase }, { on := 4, ground := Ground.phase }, { on := 5, ground := Ground.phase }, { on := 6, ground := Ground.phase }, { on := 7, ground := Ground.phase }, { on := 8, ground := Ground.phase }, { on := 9, ground := Ground.phase }, { on := 10, ground := Ground.phase }, { on := 11, ground := Ground.phase }, { on := 12, ground := Ground.phase }, { on := 13, ground := Ground.phase }, { on := 14, ground := Ground.phase }], guard := none }) (v := ?_) rfl (by kernel_rfl) (by kernel_rfl) (by kernel_rfl) (fun _ _ _ h => h) (Or.inl ⟨by rfl, ?_⟩) (by assumption) ?_
        rotate_left
        · intro wq hSq
          try dsimp only at hSq
          go_simp
          try (with_reducible rfl)
        try simp only [Act.put, List.setIfInBounds_toArray, List.set_cons_zero, List.set_cons_succ]
        refine wpAnyH_ready (rs := [16]) (by kernel_rfl) (by simp) ?_
        refine AllReadyH.cons (o := { dst := none, op := Op.store 42 (Operand.tmp 86) (Operand.tmp 85), type := 0, pos := "ref.go:217", after := #[{ on := 15, ground := Ground.data }, { on := 14, ground := Ground.data }, { on := 14, ground := Ground.chain }, { on := 0, ground := Ground.phase }, { on := 1, ground := Ground.phase }, { on := 2, ground := Ground.phase }, { on := 3, ground := Ground.phase }, { on := 4, ground := Ground.phase }, { on := 5, ground := Ground.phase }, { on := 6, ground := Ground.phase }, { on := 7, ground := Ground.phase }, { on := 8, ground := Ground.phase }, { on := 9, ground := Ground.phase }, { on := 10, ground := Ground.phase }, { on := 11, ground := Ground.phase }, { on := 12, ground := Ground.phase }, { on := 13, ground := Ground.phase }, { on := 14, ground := Ground.phase }], guard := none }) rfl (fun K hK => ?_) AllReadyH.nil
        go_simp
        refine hK.out _ _ (by exact ⟨s1, s2, s4, s5⟩) (fun hHeldG => ?_)
        clear hK K hHeldF
        try simp only [Act.put, List.setIfInBounds_toArray, List.set_cons_zero, List.set_cons_succ]
        refine wpAnyH_done (by kernel_rfl) ?_ _
        go_wp2_with fail
        go_roundw
        case rel => exact ⟨k + 1, _, by omega, by go_num, HK1.out.2⟩
        case measure => simp [intOf]; omega
      · go_simp
        refine hK.out _ _ (by exact ⟨z1, z2, z4, z5⟩) (fun hHeldA => ?_)
        clear hK K hHeld0
        try simp only [Act.put, List.setIfInBounds_toArray, List.set_cons_zero, List.set_cons_succ]
        refine wpAnyH_ready (rs := [1]) (by kernel_rfl) (by simp) ?_
        refine AllReadyH.cons (o := { dst := some 72, op := Op.load 42 (Operand.tmp 71), type := 42, pos := "ref.go:217", after := #[{ on := 0, ground := Ground.data }], guard := none }) rfl (fun K hK => ?_) AllReadyH.nil
        go_simp
        refine hK.out _ _ (by exact ⟨z1, z2, z4, z5⟩) (fun hHeldB => ?_)
        clear hK K hHeldA
        try simp only [Act.put, List.setIfInBounds_toArray, List.set_cons_zero, List.set_cons_succ]
        refine wpAnyH_ready (rs := [14]) (by kernel_rfl) (by simp) ?_
        refine AllReadyH.cons (o := { dst := some 85, op := Op.call { callee := Callee.builtin Builtin.append, args := #[Operand.tmp 72, Operand.tmp 84], argTypes := #[42, 42] }, type := 42, pos := "ref.go:217", after := #[{ on := 1, ground := Ground.data }, { on := 13, ground := Ground.data }], guard := none }) rfl (fun K hK => ?_) AllReadyH.nil
        refine step_append_lies _ (by rfl) _ _ _ (by rfl) w.heap.size 38 i0 _ 1 8 Try.underlying42 hi hz0 hz1 hz2 rfl (by omega) _ k (u64s ((addU f1.bu f2.bu).take k)) (by rfl) (own_part HK.out.own (Part.of_below (by first | exact ((Below.refl _ _).alloc (Nat.le_refl _) _).drew | exact ((Below.refl _ _).drew).alloc (Nat.le_refl _) _ | exact (Below.refl _ _).alloc (Nat.le_refl _) _) (Nat.le_refl _) []) (by simp)) ⟨wr.heap.size, 0, none⟩ 1 1 [.int .u64 (IntKind.u64.wrap (x + y))] (by rfl) (by rfl) (World.news_of_block (cs := #[.int .u64 (IntKind.u64.wrap (x + y))]) (t := 38) (fr := (0, 0)) (heap_alloc_new wr _)) (by simp [Value.oneCell']) (by omega) H3.out H4.out (by have := H5.out; simp; omega) (wr.heap.size + 1) (by simp) ?_; intro gg gcap w6 hown6 hgr6 hat6 hlt6; have HK1 := Lib.hid (HK.out.grow (by first | exact ((Below.refl _ _).alloc (Nat.le_refl _) _).drew | exact ((Below.refl _ _).drew).alloc (Nat.le_refl _) _ | exact (Below.refl _ _).alloc (Nat.le_refl _) _) HT.out hown6 hgr6); have v1 : w6.cell? ⟨w.heap.size + 1, 4, none⟩ = some (.slice (some ⟨b1, o1, none⟩) f1.bu.length c) := HK1.out.1.1.cell 4; have v2 : w6.cell? ⟨w.heap.size + 1 + 1, 4, none⟩ = some (.slice (some ⟨b2, o2, none⟩) f2.bu.length c') := HK1.out.1.2.1.cell 4; have v3 : w6.cell? ⟨w5.heap.size, 4, none⟩ = some v := HK1.out.1.2.2.1.cell 4; have v4 : w6.cell? ⟨b1, o1 + k, none⟩ = some (.int .u64 x) := HK1.out.1.2.2.2 ⟨b1, o1 + k, none⟩ _ b1x HC1.out; have v5 : w6.cell? ⟨b2, o2 + k, none⟩ = some (.int .u64 y) := HK1.out.1.2.2.2 ⟨b2, o2 + k, none⟩ _ b2x HC2.out; have gl := HK1.out.1.2.2.1.lt; have gf := HK1.out.1.2.2.1.free; have nO1 : w5.heap.size ≠ w.heap.size + 1 := (by have := HK.out.lo; omega); have nO2 : w5.heap.size ≠ w.heap.size + 1 + 1 := (by have := HK.out.lo; omega); have nO3 : w5.heap.size ≠ b1 := (by have := HK.out.lo; omega); have nO4 : w5.heap.size ≠ b2 := (by have := HK.out.lo; omega); have s1 := (World.cell?_setCell_far w6 ⟨w5.heap.size, 4, none⟩ ⟨w.heap.size + 1, 4, none⟩ (.slice (some ⟨gg, 0, none⟩) (k + 1) gcap) nO1).trans v1; have s2 := (World.cell?_setCell_far w6 ⟨w5.heap.size, 4, none⟩ ⟨w.heap.size + 1 + 1, 4, none⟩ (.slice (some ⟨gg, 0, none⟩) (k + 1) gcap) nO2).trans v2; have s4 := (World.cell?_setCell_far w6 ⟨w5.heap.size, 4, none⟩ ⟨b1, o1 + k, none⟩ (.slice (some ⟨gg, 0, none⟩) (k + 1) gcap) nO3).trans v4; have s5 := (World.cell?_setCell_far w6 ⟨w5.heap.size, 4, none⟩ ⟨b2, o2 + k, none⟩ (.slice (some ⟨gg, 0, none⟩) (k + 1) gcap) nO4).trans v5; clear hown6 hgr6 hat6
        refine hK.out _ _ (by exact ⟨v1, v2, v4, v5⟩) (fun hHeldF => ?_)
        clear hK K hHeldB
        try simp only [Act.put, List.setIfInBounds_toArray, List.set_cons_zero, List.set_cons_succ]
        refine wpAnyH_take (i := 15) (oi := { dst := some 86, op := Op.fieldAddr 44 (Operand.tmp 9) 4, type := 0, pos := "ref.go:217", after := #[{ on := 0, ground := Ground.phase }, { on := 1, ground := Ground.phase }, { on := 2, ground := Ground.phase }, { on := 3, ground := Ground.phase }, { on := 4, ground := Ground.phase }, { on := 5, ground := Ground.phase }, { on := 6, ground := Ground.phase }, { on := 7, ground := Ground.phase }, { on := 8, ground := Ground.phase }, { on := 9, ground := Ground.phase }, { on := 10, ground := Ground.phase }, { on := 11, ground := Ground.phase }, { on := 12, ground := Ground.phase }, { on := 13, ground := Ground.phase }, { on := 14, ground := Ground.phase }], guard := none }) (v := ?_) rfl (by kernel_rfl) (by kernel_rfl) (by kernel_rfl) (fun _ _ _ h => h) (Or.inl ⟨by rfl, ?_⟩) (by assumption) ?_
        rotate_left
        · intro wq hSq
          try dsimp only at hSq
          go_simp
          try (with_reducible rfl)
        try simp only [Act.put, List.setIfInBounds_toArray, List.set_cons_zero, List.set_cons_succ]
        refine wpAnyH_ready (rs := [16]) (by kernel_rfl) (by simp) ?_
        refine AllReadyH.cons (o := { dst := none, op := Op.store 42 (Operand.tmp 86) (Operand.tmp 85), type := 0, pos := "ref.go:217", after := #[{ on := 15, ground := Ground.data }, { on := 14, ground := Ground.data }, { on := 14, ground := Ground.chain }, { on := 0, ground := Ground.phase }, { on := 1, ground := Ground.phase }, { on := 2, ground := Ground.phase }, { on := 3, ground := Ground.phase }, { on := 4, ground := Ground.phase }, { on := 5, ground := Ground.phase }, { on := 6, ground := Ground.phase }, { on := 7, ground := Ground.phase }, { on := 8, ground := Ground.phase }, { on := 9, ground := Ground.phase }, { on := 10, ground := Ground.phase }, { on := 11, ground := Ground.phase }, { on := 12, ground := Ground.phase }, { on := 13, ground := Ground.phase }, { on := 14, ground := Ground.phase }], guard := none }) rfl (fun K hK => ?_) AllReadyH.nil
        go_simp
        refine hK.out _ _ (by exact ⟨s1, s2, s4, s5⟩) (fun hHeldG => ?_)
        clear hK K hHeldF
        try simp only [Act.put, List.setIfInBounds_toArray, List.set_cons_zero, List.set_cons_succ]
        refine wpAnyH_done (by kernel_rfl) ?_ _
        go_wp2_with fail
        go_roundw
        case rel => exact ⟨k + 1, _, by omega, by go_num, HK1.out.2⟩
        case measure => simp [intOf]; omega
    · obtain rfl : k = f1.bu.length := by omega
      obtain ⟨t0, t1, t2, t3, t4⟩ := HK.out.res.five
      have tl := HK.out.res.lt
      have tf := HK.out.res.free
      obtain ⟨a5, c5, rfl⟩ := own_form HK.out.own
      go_wp2
      refine bodyPost_ret (v := .tuple #[.agg #[.int .u64 (IntKind.u64.wrap (f1.c + f2.c)), .int .u64 (IntKind.u64.wrap (f1.su + f2.su)), .int .i64 f2.le, .int .i64 f2.gr, .slice a5 f1.bu.length c5], .int .i64 0]) (by simp [results, Try.results26, go_sem, t0, t1, t2, t3, t4]) rfl ?_
      suffices hE : Part [w.heap.size + 1 + 1 + 1] wr _ from by
        refine ⟨a5, c5, by rw [HM.out, HG.out], ?_, HK.out.low.trans (hE.below HK.out.low.size (by simp; omega))⟩
        have ho := HK.out.own
        rw [show (addU f1.bu f2.bu).take f1.bu.length = addU f1.bu f2.bu from List.take_of_length_le (by simp [addU]; omega)] at ho
        exact own_part ho hE (fun q hq => by simpa using own_off ho HK.out.res (by decide) q hq)
      repeat (first | (with_reducible exact Part.refl _ _) | refine Part.set ?_ (by simp) _)
theorem refMerge_y0b (hA : Ext .u64 w A f1.bu) (hB : Ext .u64 w B f2.bu) (hl1 : f1.bu.length ≤ 17592186044416) (h01 : ∀ (j : Nat) (x : Int), f1.bu[j]? = some x → 0 ≤ x) (h02 : ∀ (j : Nat) (x : Int), f2.bu[j]? = some x → 0 ≤ x) (hw1 : checkS l h d f1 = 0) (hw2 : checkS l h d f2 = 0) (ha : f1.le < 0) (he : f2.gr ≤ f1.gr) :
    Calls Try.prog 26 #[.agg #[.int .i64 l, .int .i64 h, .int .i64 d], .agg #[.int .u64 f1.c, .int .u64 f1.su, .int .i64 f1.le, .int .i64 f1.gr, .slice A f1.bu.length c], .agg #[.int .u64 f2.c, .int .u64 f2.su, .int .i64 f2.le, .int .i64 f2.gr, .slice B f2.bu.length c']] w (RefMerged w f1 f2) := by
  obtain ⟨i0, hi, hz0, hz1, hz2⟩ := info_parts info29
  have HAW := Lib.hid hA
  have HBW := Lib.hid hB
  have HLW := Lib.hid hl1
  have hlen : f1.bu.length = f2.bu.length := by rw [(check_len hw1).2, (check_len hw2).2]
  have hl2 : f2.bu.length ≤ 17592186044416 := by omega
  have hl1 : f1.bu.length ≤ 17592186044416 := by omega
  have HLN := Lib.hid hlen
  have HM : Hid (lem f1.le f2.le = f2.le) := Lib.hid (by unfold lem; rw [if_pos (.inl ha)])
  have HG : Hid (max f1.gr f2.gr = f1.gr) := Lib.hid (by omega)
  have hb0 : Below w.heap.size w ((((w.alloc (.cells #[.int .i64 l, .int .i64 h, .int .i64 d] 23)).alloc (.cells #[.int .u64 f1.c, .int .u64 f1.su, .int .i64 f1.le, .int .i64 f1.gr, .slice A f1.bu.length c] 44)).alloc (.cells #[.int .u64 f2.c, .int .u64 f2.su, .int .i64 f2.le, .int .i64 f2.gr, .slice B f2.bu.length c'] 44)).alloc (.cells #[.int .u64 0, .int .u64 0, .int .i64 0, .int .i64 0, .slice none 0 0] 44)) := by repeat (first | (with_reducible exact Below.refl _ _) | refine Below.alloc ?_ (by simp; try omega) _)
  have HB0 := Lib.hid hb0
  have HA := Lib.hid (hA.on hb0)
  have HB := Lib.hid (hB.on hb0)
  have H01 := Lib.hid h01
  have H02 := Lib.hid h02
  have HR0 : Hid (Row ((((w.alloc (.cells #[.int .i64 l, .int .i64 h, .int .i64 d] 23)).alloc (.cells #[.int .u64 f1.c, .int .u64 f1.su, .int .i64 f1.le, .int .i64 f1.gr, .slice A f1.bu.length c] 44)).alloc (.cells #[.int .u64 f2.c, .int .u64 f2.su, .int .i64 f2.le, .int .i64 f2.gr, .slice B f2.bu.length c'] 44)).alloc (.cells #[.int .u64 0, .int .u64 0, .int .i64 0, .int .i64 0, .slice none 0 0] 44)) w.heap.size 23 [.int .i64 l, .int .i64 h, .int .i64 d]) := Lib.hid ((((Row.new w _ _).alloc _).alloc _).alloc _)
  have HR1 : Hid (Row ((((w.alloc (.cells #[.int .i64 l, .int .i64 h, .int .i64 d] 23)).alloc (.cells #[.int .u64 f1.c, .int .u64 f1.su, .int .i64 f1.le, .int .i64 f1.gr, .slice A f1.bu.length c] 44)).alloc (.cells #[.int .u64 f2.c, .int .u64 f2.su, .int .i64 f2.le, .int .i64 f2.gr, .slice B f2.bu.length c'] 44)).alloc (.cells #[.int .u64 0, .int .u64 0, .int .i64 0, .int .i64 0, .slice none 0 0] 44)) (w.heap.size + 1) 44 [.int .u64 f1.c, .int .u64 f1.su, .int .i64 f1.le, .int .i64 f1.gr, .slice A f1.bu.length c]) := Lib.hid (((Row.at_ (w := w.alloc _) (by simp)).alloc _).alloc _)
  have HR2 : Hid (Row ((((w.alloc (.cells #[.int .i64 l, .int .i64 h, .int .i64 d] 23)).alloc (.cells #[.int .u64 f1.c, .int .u64 f1.su, .int .i64 f1.le, .int .i64 f1.gr, .slice A f1.bu.length c] 44)).alloc (.cells #[.int .u64 f2.c, .int .u64 f2.su, .int .i64 f2.le, .int .i64 f2.gr, .slice B f2.bu.length c'] 44)).alloc (.cells #[.int .u64 0, .int .u64 0, .int .i64 0, .int .i64 0, .slice none 0 0] 44)) (w.heap.size + 1 + 1) 44 [.int .u64 f2.c, .int .u64 f2.su, .int .i64 f2.le, .int .i64 f2.gr, .slice B f2.bu.length c']) := Lib.hid ((Row.at_ (w := (w.alloc _).alloc _) (by simp)).alloc _)
  have HR3 : Hid (Row ((((w.alloc (.cells #[.int .i64 l, .int .i64 h, .int .i64 d] 23)).alloc (.cells #[.int .u64 f1.c, .int .u64 f1.su, .int .i64 f1.le, .int .i64 f1.gr, .slice A f1.bu.length c] 44)).alloc (.cells #[.int .u64 f2.c, .int .u64 f2.su, .int .i64 f2.le, .int .i64 f2.gr, .slice B f2.bu.length c'] 44)).alloc (.cells #[.int .u64 0, .int .u64 0, .int .i64 0, .int .i64 0, .slice none 0 0] 44)) (w.heap.size + 1 + 1 + 1) 44 [.int .u64 0, .int .u64 0, .int .i64 0, .int .i64 0, .slice none 0 0]) := Lib.hid (Row.at_ (w := ((w.alloc _).alloc _).alloc _) (by simp))
  clear hA hB hb0 h01 h02
  have K1 : Hid (checkP l h d f1.bu f1.c f1.su f1.le f1.gr = 0) := Lib.hid hw1
  have K2 : Hid (checkP l h d f2.bu f2.c f2.su f2.le f2.gr = 0) := Lib.hid hw2
  clear hw1 hw2 hlen
  go_enter Try.func26, Try.ntmps26
  go_wp2_with (first | (go_at_call 28; (with_reducible refine (refCheck_any (xs := f1.bu) HA.out hl1 H01.out).mono ?_); rw [K1.out]; rintro e w4 ⟨rfl, hb⟩; have PA1 := Lib.hid (HA.out.on hb); have PB1 := Lib.hid (HB.out.on hb); have LB1 := Lib.hid (HB0.out.trans (hb.mono HB0.out.size)); have Q01 := Lib.hid (HR0.out.below hb HR0.out.lt); have Q11 := Lib.hid (HR1.out.below hb HR1.out.lt); have Q21 := Lib.hid (HR2.out.below hb HR2.out.lt); have Q31 := Lib.hid (HR3.out.below hb HR3.out.lt); clear hb; have p0 := Q01.out.cell 0; have p1 := Q01.out.cell 1; have p2 := Q01.out.cell 2; obtain ⟨q0, q1, q2, q3, q4⟩ := Q11.out.five; obtain ⟨r0, r1, r2, r3, r4⟩ := Q21.out.five; obtain ⟨t0, t1, t2, t3, t4⟩ := Q31.out.five; have ql := Q11.out.lt; have rl := Q21.out.lt; have tl := Q31.out.lt; have tf := Q31.out.free) | (go_at_call 28; (with_reducible refine (refCheck_any (xs := f2.bu) PB1.out hl2 H02.out).mono ?_); rw [K2.out]; rintro e w5 ⟨rfl, hb⟩; have PA2 := Lib.hid (PA1.out.on hb); have PB2 := Lib.hid (PB1.out.on hb); have LB2 := Lib.hid (LB1.out.trans (hb.mono LB1.out.size)); have Q02 := Lib.hid (Q01.out.below hb Q01.out.lt); have Q12 := Lib.hid (Q11.out.below hb Q11.out.lt); have Q22 := Lib.hid (Q21.out.below hb Q21.out.lt); have Q32 := Lib.hid (Q31.out.below hb Q31.out.lt); clear hb; have p0 := Q02.out.cell 0; have p1 := Q02.out.cell 1; have p2 := Q02.out.cell 2; obtain ⟨q0, q1, q2, q3, q4⟩ := Q12.out.five; obtain ⟨r0, r1, r2, r3, r4⟩ := Q22.out.five; obtain ⟨t0, t1, t2, t3, t4⟩ := Q32.out.five; have ql := Q12.out.lt; have rl := Q22.out.lt; have tl := Q32.out.lt; have tf := Q32.out.free))
  go_loopw [10] (fun i wr => ∃ (k : Nat) (v : Value), k ≤ f1.bu.length ∧ i = .int .i64 k ∧ RefMid w f1 f2 A B c c' f2.le f1.gr w5.heap.size v k wr) (fun i _ => f1.bu.length - (intOf i).toNat)
  case atStart => exact ⟨0, _, Nat.zero_le _, rfl, mids_start Q12.out Q22.out Q32.out LB2.out⟩
  case round =>
    obtain ⟨k, v, hk, rfl, hK⟩ := hrel
    have HK := Lib.hid hK
    obtain ⟨q0, q1, q2, q3, q4⟩ := hK.x.five
    obtain ⟨r0, r1, r2, r3, r4⟩ := hK.y.five
    obtain ⟨e0, e1, e2, e3, e4⟩ := hK.box.five
    have ql := hK.x.lt
    have rl := hK.y.lt
    have el := hK.box.lt
    have ef := hK.box.free
    clear hK
    by_cases hlt : k < f1.bu.length
    · obtain ⟨x, hx⟩ : ∃ x, f1.bu[k]? = some x := ⟨f1.bu[k], List.getElem?_eq_getElem hlt⟩
      obtain ⟨y, hy⟩ : ∃ y, f2.bu[k]? = some y := ⟨f2.bu[k]'(by have := HLN.out; omega), List.getElem?_eq_getElem (by have := HLN.out; omega)⟩
      obtain ⟨b1, o1, hA1, hb1x, _⟩ := HAW.out k x hx
      obtain ⟨b1', o1', hA1', _, hcx⟩ := (HAW.out.on HK.out.low) k x hx
      subst hA1
      cases hA1'
      obtain ⟨b2, o2, hB1, hb2x, _⟩ := HBW.out k y hy
      obtain ⟨b2', o2', hB1', _, hcy⟩ := (HBW.out.on HK.out.low) k y hy
      subst hB1
      cases hB1'
      have HT := Lib.hid (addU_snoc hx hy)
      have H3 : Hid (k + 1 ≤ maxLen) := Lib.hid (by unfold maxLen; have := HLW.out; omega)
      have H4 : Hid ((k + 1) * 8 ≤ 140737488355328) := Lib.hid (by have := HLW.out; omega)
      have H5 : Hid (w.heap.size ≤ (wr.alloc (.cells #[.int .u64 (IntKind.u64.wrap (x + y))] 38)).heap.size) := Lib.hid (by have := HK.out.low.size; simp; omega)
      have hlt' : (k : Int) < (f1.bu.length : Int) := by omega
      have hlt2 : (k : Int) < (f2.bu.length : Int) := by have := HLN.out; omega
      clear hx hy
      obtain ⟨b1x, b2x⟩ : b1 < w.heap.size ∧ b2 < w.heap.size := ⟨hb1x, hb2x⟩
      have HC1 := Lib.hid hcx
      have bx1 : b1 < wr.heap.size := Nat.lt_of_lt_of_le hb1x HK.out.low.size
      have bx2 : b2 < wr.heap.size := Nat.lt_of_lt_of_le hb2x HK.out.low.size
      have hbA : Below wr.heap.size wr (wr.alloc (.cells #[.int .u64 (IntKind.u64.wrap (x + y))] 38)) := (Below.refl _ _).alloc (Nat.le_refl _) _
      have y1 : wr.drew.cell? ⟨w.heap.size + 1, 4, none⟩ = some (.slice (some ⟨b1, o1, none⟩) f1.bu.length c) := q4
      have y2 : wr.drew.cell? ⟨w.heap.size + 1 + 1, 4, none⟩ = some (.slice (some ⟨b2, o2, none⟩) f2.bu.length c') := r4
      have y3 : wr.drew.cell? ⟨w5.heap.size, 4, none⟩ = some v := e4
      have y4 : wr.drew.cell? ⟨b1, o1 + k, none⟩ = some (.int .u64 x) := hcx
      have y5 : wr.drew.cell? ⟨b2, o2 + k, none⟩ = some (.int .u64 y) := hcy
      have z1 : (wr.alloc (.cells #[.int .u64 (IntKind.u64.wrap (x + y))] 38)).drew.cell? ⟨w.heap.size + 1, 4, none⟩ = some (.slice (some ⟨b1, o1, none⟩) f1.bu.length c) := (hbA.cell (p := ⟨w.heap.size + 1, 4, none⟩) ql).trans q4
      have z2 : (wr.alloc (.cells #[.int .u64 (IntKind.u64.wrap (x + y))] 38)).drew.cell? ⟨w.heap.size + 1 + 1, 4, none⟩ = some (.slice (some ⟨b2, o2, none⟩) f2.bu.length c') := (hbA.cell (p := ⟨w.heap.size + 1 + 1, 4, none⟩) rl).trans r4
      have z3 : (wr.alloc (.cells #[.int .u64 (IntKind.u64.wrap (x + y))] 38)).drew.cell? ⟨w5.heap.size, 4, none⟩ = some v := (hbA.cell (p := ⟨w5.heap.size, 4, none⟩) el).trans e4
      have z4 : (wr.alloc (.cells #[.int .u64 (IntKind.u64.wrap (x + y))] 38)).drew.cell? ⟨b1, o1 + k, none⟩ = some (.int .u64 x) := (hbA.cell (p := ⟨b1, o1 + k, none⟩) bx1).trans hcx
      have z5 : (wr.alloc (.cells #[.int .u64 (IntKind.u64.wrap (x + y))] 38)).drew.cell? ⟨b2, o2 + k, none⟩ = some (.int .u64 y) := (hbA.cell (p := ⟨b2, o2 + k, none⟩) bx2).trans hcy
      clear hbA
      have HC2 := Lib.hid hcy
      go_wp2_with fail
      refine wp_region_held_drew (S := (fun w' => w'.cell? ⟨w.heap.size + 1, 4, none⟩ = some (.slice (some ⟨b1, o1, none⟩) f1.bu.length c) ∧ w'.cell? ⟨w.heap.size + 1 + 1, 4, none⟩ = some (.slice (some ⟨b2, o2, none⟩) f2.bu.length c') ∧ w'.cell? ⟨b1, o1 + k, none⟩ = some (.int .u64 x) ∧ w'.cell? ⟨b2, o2 + k, none⟩ = some (.int .u64 y))) (by kernel_rfl) ?_ (fun hHeld0 => ?_)
      · try dsimp only
        exact ⟨y1, y2, y4, y5⟩
      refine wpAnyH_take (i := 0) (oi := { dst := some 71, op := Op.fieldAddr 44 (Operand.tmp 9) 4, type := 0, pos := "ref.go:217", after := #[], guard := none }) (v := ?_) rfl (by kernel_rfl) (by kernel_rfl) (by kernel_rfl) (fun _ _ _ h => h) (Or.inl ⟨by rfl, ?_⟩) (by assumption) ?_
      rotate_left
      · intro wq hSq
        try dsimp only at hSq
        go_simp
        try (with_reducible rfl)
      try simp only [Act.put, List.setIfInBounds_toArray, List.set_cons_zero, List.set_cons_succ]
      refine wpAnyH_take (i := 2) (oi := { dst := some 73, op := Op.fieldAddr 44 (Operand.tmp 4) 4, type := 0, pos := "ref.go:217", after := #[], guard := none }) (v := ?_) rfl (by kernel_rfl) (by kernel_rfl) (by kernel_rfl) (fun _ _ _ h => h) (Or.inl ⟨by rfl, ?_⟩) (by assumption) ?_
      rotate_left
      · intro wq hSq
        try dsimp only at hSq
        go_simp
        try (with_reducible rfl)
      try simp only [Act.put, List.setIfInBounds_toArray, List.set_cons_zero, List.set_cons_succ]
      refine wpAnyH_take (i := 3) (oi := { dst := some 74, op := Op.load 42 (Operand.tmp 73), type := 42, pos := "ref.go:217", after := #[{ on := 2, ground := Ground.data }], guard := none }) (v := ?_) rfl (by kernel_rfl) (by kernel_rfl) (by kernel_rfl) (fun _ _ _ h => h) (Or.inl ⟨by rfl, ?_⟩) (by assumption) ?_
      rotate_left
      · intro wq hSq
        try dsimp only at hSq
        go_simp
        try (with_reducible rfl)
      try simp only [Act.put, List.setIfInBounds_toArray, List.set_cons_zero, List.set_cons_succ]
      refine wpAnyH_take (i := 4) (oi := { dst := some 75, op := Op.move (Operand.tmp 10), type := 3, pos := "ref.go:217", after := #[], guard := none }) (v := ?_) rfl (by kernel_rfl) (by kernel_rfl) (by kernel_rfl) (fun _ _ _ h => h) (Or.inl ⟨by rfl, ?_⟩) (by assumption) ?_
      rotate_left
      · intro wq hSq
        try dsimp only at hSq
        go_simp
        try (with_reducible rfl)
      try simp only [Act.put, List.setIfInBounds_toArray, List.set_cons_zero, List.set_cons_succ]
      refine wpAnyH_take (i := 5) (oi := { dst := some 76, op := Op.indexAddr 42 (Operand.tmp 74) (Operand.tmp 75), type := 0, pos := "ref.go:217", after := #[{ on := 3, ground := Ground.data }, { on := 4, ground := Ground.data }], guard := none }) (v := ?_) rfl (by kernel_rfl) (by kernel_rfl) (by kernel_rfl) (fun _ _ _ h => h) (Or.inl ⟨by rfl, ?_⟩) (by assumption) ?_
      rotate_left
      · intro wq hSq
        try dsimp only at hSq
        go_simp
        try (with_reducible rfl)
      try simp only [Act.put, List.setIfInBounds_toArray, List.set_cons_zero, List.set_cons_succ]
      refine wpAnyH_take (i := 6) (oi := { dst := some 77, op := Op.load 38 (Operand.tmp 76), type := 38, pos := "ref.go:217", after := #[{ on := 5, ground := Ground.data }], guard := none }) (v := ?_) rfl (by kernel_rfl) (by kernel_rfl) (by kernel_rfl) (fun _ _ _ h => h) (Or.inl ⟨by rfl, ?_⟩) (by assumption) ?_
      rotate_left
      · intro wq hSq
        try dsimp only at hSq
        go_simp
        try (with_reducible rfl)
      try simp only [Act.put, List.setIfInBounds_toArray, List.set_cons_zero, List.set_cons_succ]
      refine wpAnyH_take (i := 7) (oi := { dst := some 78, op := Op.fieldAddr 44 (Operand.tmp 5) 4, type := 0, pos := "ref.go:217", after := #[], guard := none }) (v := ?_) rfl (by kernel_rfl) (by kernel_rfl) (by kernel_rfl) (fun _ _ _ h => h) (Or.inl ⟨by rfl, ?_⟩) (by assumption) ?_
      rotate_left
      · intro wq hSq
        try dsimp only at hSq
        go_simp
        try (with_reducible rfl)
      try simp only [Act.put, List.setIfInBounds_toArray, List.set_cons_zero, List.set_cons_succ]
      refine wpAnyH_take (i := 8) (oi := { dst := some 79, op := Op.load 42 (Operand.tmp 78), type := 42, pos := "ref.go:217", after := #[{ on := 7, ground := Ground.data }], guard := none }) (v := ?_) rfl (by kernel_rfl) (by kernel_rfl) (by kernel_rfl) (fun _ _ _ h => h) (Or.inl ⟨by rfl, ?_⟩) (by assumption) ?_
      rotate_left
      · intro wq hSq
        try dsimp only at hSq
        go_simp
        try (with_reducible rfl)
      try simp only [Act.put, List.setIfInBounds_toArray, List.set_cons_zero, List.set_cons_succ]
      refine wpAnyH_take (i := 9) (oi := { dst := some 80, op := Op.move (Operand.tmp 10), type := 3, pos := "ref.go:217", after := #[], guard := none }) (v := ?_) rfl (by kernel_rfl) (by kernel_rfl) (by kernel_rfl) (fun _ _ _ h => h) (Or.inl ⟨by rfl, ?_⟩) (by assumption) ?_
      rotate_left
      · intro wq hSq
        try dsimp only at hSq
        go_simp
        try (with_reducible rfl)
      try simp only [Act.put, List.setIfInBounds_toArray, List.set_cons_zero, List.set_cons_succ]
      refine wpAnyH_take (i := 10) (oi := { dst := some 81, op := Op.indexAddr 42 (Operand.tmp 79) (Operand.tmp 80), type := 0, pos := "ref.go:217", after := #[{ on := 8, ground := Ground.data }, { on := 9, ground := Ground.data }], guard := none }) (v := ?_) rfl (by kernel_rfl) (by kernel_rfl) (by kernel_rfl) (fun _ _ _ h => h) (Or.inl ⟨by rfl, ?_⟩) (by assumption) ?_
      rotate_left
      · intro wq hSq
        try dsimp only at hSq
        go_simp
        try (with_reducible rfl)
      try simp only [Act.put, List.setIfInBounds_toArray, List.set_cons_zero, List.set_cons_succ]
      refine wpAnyH_take (i := 11) (oi := { dst := some 82, op := Op.load 38 (Operand.tmp 81), type := 38, pos := "ref.go:217", after := #[{ on := 10, ground := Ground.data }], guard := none }) (v := ?_) rfl (by kernel_rfl) (by kernel_rfl) (by kernel_rfl) (fun _ _ _ h => h) (Or.inl ⟨by rfl, ?_⟩) (by assumption) ?_
      rotate_left
      · intro wq hSq
        try dsimp only at hSq
        go_simp
        try (with_reducible rfl)
      try simp only [Act.put, List.setIfInBounds_toArray, List.set_cons_zero, List.set_cons_succ]
      refine wpAnyH_take (i := 12) (oi := { dst := some 83, op := Op.binOp BinOp.add 38 (Operand.tmp 77) (Operand.tmp 82) 38, type := 38, pos := "ref.go:217", after := #[{ on := 6, ground := Ground.data }, { on := 11, ground := Ground.data }], guard := none }) (v := ?_) rfl (by kernel_rfl) (by kernel_rfl) (by kernel_rfl) (fun _ _ _ h => h) (Or.inl ⟨by rfl, ?_⟩) (by assumption) ?_
      rotate_left
      · intro wq hSq
        try dsimp only at hSq
        go_simp
        try (with_reducible rfl)
      try simp only [Act.put, List.setIfInBounds_toArray, List.set_cons_zero, List.set_cons_succ]
      refine wpAnyH_ready (rs := [1, 13]) (by kernel_rfl) (by simp) ?_
      refine AllReadyH.cons (o := { dst := some 72, op := Op.load 42 (Operand.tmp 71), type := 42, pos := "ref.go:217", after := #[{ on := 0, ground := Ground.data }], guard := none }) rfl (fun K hK => ?_) (AllReadyH.cons (o := { dst := some 84, op := Op.buildSlice 42 1 #[(0, Operand.tmp 83)], type := 42, pos := "ref.go:217", after := #[{ on := 12, ground := Ground.data }], guard := none }) rfl (fun K hK => ?_) AllReadyH.nil)
      · go_simp
        refine hK.out _ _ (by exact ⟨y1, y2, y4, y5⟩) (fun hHeldA => ?_)
        clear hK K hHeld0
        try simp only [Act.put, List.setIfInBounds_toArray, List.set_cons_zero, List.set_cons_succ]
        refine wpAnyH_ready (rs := [13]) (by kernel_rfl) (by simp) ?_
        refine AllReadyH.cons (o := { dst := some 84, op := Op.buildSlice 42 1 #[(0, Operand.tmp 83)], type := 42, pos := "ref.go:217", after := #[{ on := 12, ground := Ground.data }], guard := none }) rfl (fun K hK => ?_) AllReadyH.nil
        go_simp
        refine hK.out _ _ (by exact ⟨z1, z2, z4, z5⟩) (fun hHeldB => ?_)
        clear hK K hHeldA
        try simp only [Act.put, List.setIfInBounds_toArray, List.set_cons_zero, List.set_cons_succ]
        refine wpAnyH_ready (rs := [14]) (by kernel_rfl) (by simp) ?_
        refine AllReadyH.cons (o := { dst := some 85, op := Op.call { callee := Callee.builtin Builtin.append, args := #[Operand.tmp 72, Operand.tmp 84], argTypes := #[42, 42] }, type := 42, pos := "ref.go:217", after := #[{ on := 1, ground := Ground.data }, { on := 13, ground := Ground.data }], guard := none }) rfl (fun K hK => ?_) AllReadyH.nil
        refine step_append_lies _ (by rfl) _ _ _ (by rfl) w.heap.size 38 i0 _ 1 8 Try.underlying42 hi hz0 hz1 hz2 rfl (by omega) _ k (u64s ((addU f1.bu f2.bu).take k)) (by rfl) (own_part HK.out.own (Part.of_below (by first | exact ((Below.refl _ _).alloc (Nat.le_refl _) _).drew | exact ((Below.refl _ _).drew).alloc (Nat.le_refl _) _ | exact (Below.refl _ _).alloc (Nat.le_refl _) _) (Nat.le_refl _) []) (by simp)) ⟨wr.heap.size, 0, none⟩ 1 1 [.int .u64 (IntKind.u64.wrap (x + y))] (by rfl) (by rfl) (World.news_of_block (cs := #[.int .u64 (IntKind.u64.wrap (x + y))]) (t := 38) (fr := (0, 0)) (heap_alloc_new wr _)) (by simp [Value.oneCell']) (by omega) H3.out H4.out (by have := H5.out; simp; omega) (wr.heap.size + 1) (by simp) ?_; intro gg gcap w6 hown6 hgr6 hat6 hlt6; have HK1 := Lib.hid (HK.out.grow (by first | exact ((Below.refl _ _).alloc (Nat.le_refl _) _).drew | exact ((Below.refl _ _).drew).alloc (Nat.le_refl _) _ | exact (Below.refl _ _).alloc (Nat.le_refl _) _) HT.out hown6 hgr6); have v1 : w6.cell? ⟨w.heap.size + 1, 4, none⟩ = some (.slice (some ⟨b1, o1, none⟩) f1.bu.length c) := HK1.out.1.1.cell 4; have v2 : w6.cell? ⟨w.heap.size + 1 + 1, 4, none⟩ = some (.slice (some ⟨b2, o2, none⟩) f2.bu.length c') := HK1.out.1.2.1.cell 4; have v3 : w6.cell? ⟨w5.heap.size, 4, none⟩ = some v := HK1.out.1.2.2.1.cell 4; have v4 : w6.cell? ⟨b1, o1 + k, none⟩ = some (.int .u64 x) := HK1.out.1.2.2.2 ⟨b1, o1 + k, none⟩ _ b1x HC1.out; have v5 : w6.cell? ⟨b2, o2 + k, none⟩ = some (.int .u64 y) := HK1.out.1.2.2.2 ⟨b2, o2 + k, none⟩ _ b2x HC2.out; have gl := HK1.out.1.2.2.1.lt; have gf := HK1.out.1.2.2.1.free; have nO1 : w5.heap.size ≠ w.heap.size + 1 := (by have := HK.out.lo; omega); have nO2 : w5.heap.size ≠ w.heap.size + 1 + 1 := (by have := HK.out.lo; omega); have nO3 : w5.heap.size ≠ b1 := (by have := HK.out.lo; omega); have nO4 : w5.heap.size ≠ b2 := (by have := HK.out.lo; omega); have s1 := (World.cell?_setCell_far w6 ⟨w5.heap.size, 4, none⟩ ⟨w.heap.size + 1, 4, none⟩ (.slice (some ⟨gg, 0, none⟩) (k + 1) gcap) nO1).trans v1; have s2 := (World.cell?_setCell_far w6 ⟨w5.heap.size, 4, none⟩ ⟨w.heap.size + 1 + 1, 4, none⟩ (.slice (some ⟨gg, 0, none⟩) (k + 1) gcap) nO2).trans v2; have s4 := (World.cell?_setCell_far w6 ⟨w5.heap.size, 4, none⟩ ⟨b1, o1 + k, none⟩ (.slice (some ⟨gg, 0, none⟩) (k + 1) gcap) nO3).trans v4; have s5 := (World.cell?_setCell_far w6 ⟨w5.heap.size, 4, none⟩ ⟨b2, o2 + k, none⟩ (.slice (some ⟨gg, 0, none⟩) (k + 1) gcap) nO4).trans v5; clear hown6 hgr6 hat6
        refine hK.out _ _ (by exact ⟨v1, v2, v4, v5⟩) (fun hHeldF => ?_)
        clear hK K hHeldB
        try simp only [Act.put, List.setIfInBounds_toArray, List.set_cons_zero, List.set_cons_succ]
        refine wpAnyH_take (i := 15) (oi := { dst := some 86, op := Op.fieldAddr 44 (Operand.tmp 9) 4, type := 0, pos := "ref.go:217", after := #[{ on := 0, ground := Ground.phase }, { on := 1, ground := Ground.phase }, { on := 2, ground := Ground.phase }, { on := 3, ground := Ground.phase }, { on := 4, ground := Ground.phase }, { on := 5, ground := Ground.phase }, { on := 6, ground := Ground.phase }, { on := 7, ground := Ground.phase }, { on := 8, ground := Ground.phase }, { on := 9, ground := Ground.phase }, { on := 10, ground := Ground.phase }, { on := 11, ground := Ground.phase }, { on := 12, ground := Ground.phase }, { on := 13, ground := Ground.phase }, { on := 14, ground := Ground.phase }], guard := none }) (v := ?_) rfl (by kernel_rfl) (by kernel_rfl) (by kernel_rfl) (fun _ _ _ h => h) (Or.inl ⟨by rfl, ?_⟩) (by assumption) ?_
        rotate_left
        · intro wq hSq
          try dsimp only at hSq
          go_simp
          try (with_reducible rfl)
        try simp only [Act.put, List.setIfInBounds_toArray, List.set_cons_zero, List.set_cons_succ]
        refine wpAnyH_ready (rs := [16]) (by kernel_rfl) (by simp) ?_
        refine AllReadyH.cons (o := { dst := none, op := Op.store 42 (Operand.tmp 86) (Operand.tmp 85), type := 0, pos := "ref.go:217", after := #[{ on := 15, ground := Ground.data }, { on := 14, ground := Ground.data }, { on := 14, ground := Ground.chain }, { on := 0, ground := Ground.phase }, { on := 1, ground := Ground.phase }, { on := 2, ground := Ground.phase }, { on := 3, ground := Ground.phase }, { on := 4, ground := Ground.phase }, { on := 5, ground := Ground.phase }, { on := 6, ground := Ground.phase }, { on := 7, ground := Ground.phase }, { on := 8, ground := Ground.phase }, { on := 9, ground := Ground.phase }, { on := 10, ground := Ground.phase }, { on := 11, ground := Ground.phase }, { on := 12, ground := Ground.phase }, { on := 13, ground := Ground.phase }, { on := 14, ground := Ground.phase }], guard := none }) rfl (fun K hK => ?_) AllReadyH.nil
        go_simp
        refine hK.out _ _ (by exact ⟨s1, s2, s4, s5⟩) (fun hHeldG => ?_)
        clear hK K hHeldF
        try simp only [Act.put, List.setIfInBounds_toArray, List.set_cons_zero, List.set_cons_succ]
        refine wpAnyH_done (by kernel_rfl) ?_ _
        go_wp2_with fail
        go_roundw
        case rel => exact ⟨k + 1, _, by omega, by go_num, HK1.out.2⟩
        case measure => simp [intOf]; omega
      · go_simp
        refine hK.out _ _ (by exact ⟨z1, z2, z4, z5⟩) (fun hHeldA => ?_)
        clear hK K hHeld0
        try simp only [Act.put, List.setIfInBounds_toArray, List.set_cons_zero, List.set_cons_succ]
        refine wpAnyH_ready (rs := [1]) (by kernel_rfl) (by simp) ?_
        refine AllReadyH.cons (o := { dst := some 72, op := Op.load 42 (Operand.tmp 71), type := 42, pos := "ref.go:217", after := #[{ on := 0, ground := Ground.data }], guard := none }) rfl (fun K hK => ?_) AllReadyH.nil
        go_simp
        refine hK.out _ _ (by exact ⟨z1, z2, z4, z5⟩) (fun hHeldB => ?_)
        clear hK K hHeldA
        try simp only [Act.put, List.setIfInBounds_toArray, List.set_cons_zero, List.set_cons_succ]
        refine wpAnyH_ready (rs := [14]) (by kernel_rfl) (by simp) ?_
        refine AllReadyH.cons (o := { dst := some 85, op := Op.call { callee := Callee.builtin Builtin.append, args := #[Operand.tmp 72, Operand.tmp 84], argTypes := #[42, 42] }, type := 42, pos := "ref.go:217", after := #[{ on := 1, ground := Ground.data }, { on := 13, ground := Ground.data }], guard := none }) rfl (fun K hK => ?_) AllReadyH.nil
        refine step_append_lies _ (by rfl) _ _ _ (by rfl) w.heap.size 38 i0 _ 1 8 Try.underlying42 hi hz0 hz1 hz2 rfl (by omega) _ k (u64s ((addU f1.bu f2.bu).take k)) (by rfl) (own_part HK.out.own (Part.of_below (by first | exact ((Below.refl _ _).alloc (Nat.le_refl _) _).drew | exact ((Below.refl _ _).drew).alloc (Nat.le_refl _) _ | exact (Below.refl _ _).alloc (Nat.le_refl _) _) (Nat.le_refl _) []) (by simp)) ⟨wr.heap.size, 0, none⟩ 1 1 [.int .u64 (IntKind.u64.wrap (x + y))] (by rfl) (by rfl) (World.news_of_block (cs := #[.int .u64 (IntKind.u64.wrap (x + y))]) (t := 38) (fr := (0, 0)) (heap_alloc_new wr _)) (by simp [Value.oneCell']) (by omega) H3.out H4.out (by have := H5.out; simp; omega) (wr.heap.size + 1) (by simp) ?_; intro gg gcap w6 hown6 hgr6 hat6 hlt6; have HK1 := Lib.hid (HK.out.grow (by first | exact ((Below.refl _ _).alloc (Nat.le_refl _) _).drew | exact ((Below.refl _ _).drew).alloc (Nat.le_refl _) _ | exact (Below.refl _ _).alloc (Nat.le_refl _) _) HT.out hown6 hgr6); have v1 : w6.cell? ⟨w.heap.size + 1, 4, none⟩ = some (.slice (some ⟨b1, o1, none⟩) f1.bu.length c) := HK1.out.1.1.cell 4; have v2 : w6.cell? ⟨w.heap.size + 1 + 1, 4, none⟩ = some (.slice (some ⟨b2, o2, none⟩) f2.bu.length c') := HK1.out.1.2.1.cell 4; have v3 : w6.cell? ⟨w5.heap.size, 4, none⟩ = some v := HK1.out.1.2.2.1.cell 4; have v4 : w6.cell? ⟨b1, o1 + k, none⟩ = some (.int .u64 x) := HK1.out.1.2.2.2 ⟨b1, o1 + k, none⟩ _ b1x HC1.out; have v5 : w6.cell? ⟨b2, o2 + k, none⟩ = some (.int .u64 y) := HK1.out.1.2.2.2 ⟨b2, o2 + k, none⟩ _ b2x HC2.out; have gl := HK1.out.1.2.2.1.lt; have gf := HK1.out.1.2.2.1.free; have nO1 : w5.heap.size ≠ w.heap.size + 1 := (by have := HK.out.lo; omega); have nO2 : w5.heap.size ≠ w.heap.size + 1 + 1 := (by have := HK.out.lo; omega); have nO3 : w5.heap.size ≠ b1 := (by have := HK.out.lo; omega); have nO4 : w5.heap.size ≠ b2 := (by have := HK.out.lo; omega); have s1 := (World.cell?_setCell_far w6 ⟨w5.heap.size, 4, none⟩ ⟨w.heap.size + 1, 4, none⟩ (.slice (some ⟨gg, 0, none⟩) (k + 1) gcap) nO1).trans v1; have s2 := (World.cell?_setCell_far w6 ⟨w5.heap.size, 4, none⟩ ⟨w.heap.size + 1 + 1, 4, none⟩ (.slice (some ⟨gg, 0, none⟩) (k + 1) gcap) nO2).trans v2; have s4 := (World.cell?_setCell_far w6 ⟨w5.heap.size, 4, none⟩ ⟨b1, o1 + k, none⟩ (.slice (some ⟨gg, 0, none⟩) (k + 1) gcap) nO3).trans v4; have s5 := (World.cell?_setCell_far w6 ⟨w5.heap.size, 4, none⟩ ⟨b2, o2 + k, none⟩ (.slice (some ⟨gg, 0, none⟩) (k + 1) gcap) nO4).trans v5; clear hown6 hgr6 hat6
        refine hK.out _ _ (by exact ⟨v1, v2, v4, v5⟩) (fun hHeldF => ?_)
        clear hK K hHeldB
        try simp only [Act.put, List.setIfInBounds_toArray, List.set_cons_zero, List.set_cons_succ]
        refine wpAnyH_take (i := 15) (oi := { dst := some 86, op := Op.fieldAddr 44 (Operand.tmp 9) 4, type := 0, pos := "ref.go:217", after := #[{ on := 0, ground := Ground.phase }, { on := 1, ground := Ground.phase }, { on := 2, ground := Ground.phase }, { on := 3, ground := Ground.phase }, { on := 4, ground := Ground.phase }, { on := 5, ground := Ground.phase }, { on := 6, ground := Ground.phase }, { on := 7, ground := Ground.phase }, { on := 8, ground := Ground.phase }, { on := 9, ground := Ground.phase }, { on := 10, ground := Ground.phase }, { on := 11, ground := Ground.phase }, { on := 12, ground := Ground.phase }, { on := 13, ground := Ground.phase }, { on := 14, ground := Ground.phase }], guard := none }) (v := ?_) rfl (by kernel_rfl) (by kernel_rfl) (by kernel_rfl) (fun _ _ _ h => h) (Or.inl ⟨by rfl, ?_⟩) (by assumption) ?_
        rotate_left
        · intro wq hSq
          try dsimp only at hSq
          go_simp
          try (with_reducible rfl)
        try simp only [Act.put, List.setIfInBounds_toArray, List.set_cons_zero, List.set_cons_succ]
        refine wpAnyH_ready (rs := [16]) (by kernel_rfl) (by simp) ?_
        refine AllReadyH.cons (o := { dst := none, op := Op.store 42 (Operand.tmp 86) (Operand.tmp 85), type := 0, pos := "ref.go:217", after := #[{ on := 15, ground := Ground.data }, { on := 14, ground := Ground.data }, { on := 14, ground := Ground.chain }, { on := 0, ground := Ground.phase }, { on := 1, ground := Ground.phase }, { on := 2, ground := Ground.phase }, { on := 3, ground := Ground.phase }, { on := 4, ground := Ground.phase }, { on := 5, ground := Ground.phase }, { on := 6, ground := Ground.phase }, { on := 7, ground := Ground.phase }, { on := 8, ground := Ground.phase }, { on := 9, ground := Ground.phase }, { on := 10, ground := Ground.phase }, { on := 11, ground := Ground.phase }, { on := 12, ground := Ground.phase }, { on := 13, ground := Ground.phase }, { on := 14, ground := Ground.phase }], guard := none }) rfl (fun K hK => ?_) AllReadyH.nil
        go_simp
        refine hK.out _ _ (by exact ⟨s1, s2, s4, s5⟩) (fun hHeldG => ?_)
        clear hK K hHeldF
        try simp only [Act.put, List.setIfInBounds_toArray, List.set_cons_zero, List.set_cons_succ]
        refine wpAnyH_done (by kernel_rfl) ?_ _
        go_wp2_with fail
        go_roundw
        case rel => exact ⟨k + 1, _, by omega, by go_num, HK1.out.2⟩
        case measure => simp [intOf]; omega
    · obtain rfl : k = f1.bu.length := by omega
      obtain ⟨t0, t1, t2, t3, t4⟩ := HK.out.res.five
      have tl := HK.out.res.lt
      have tf := HK.out.res.free
      obtain ⟨a5, c5, rfl⟩ := own_form HK.out.own
      go_wp2
      refine bodyPost_ret (v := .tuple #[.agg #[.int .u64 (IntKind.u64.wrap (f1.c + f2.c)), .int .u64 (IntKind.u64.wrap (f1.su + f2.su)), .int .i64 f2.le, .int .i64 f1.gr, .slice a5 f1.bu.length c5], .int .i64 0]) (by simp [results, Try.results26, go_sem, t0, t1, t2, t3, t4]) rfl ?_
      suffices hE : Part [w.heap.size + 1 + 1 + 1] wr _ from by
        refine ⟨a5, c5, by rw [HM.out, HG.out], ?_, HK.out.low.trans (hE.below HK.out.low.size (by simp; omega))⟩
        have ho := HK.out.own
        rw [show (addU f1.bu f2.bu).take f1.bu.length = addU f1.bu f2.bu from List.take_of_length_le (by simp [addU]; omega)] at ho
        exact own_part ho hE (fun q hq => by simpa using own_off ho HK.out.res (by decide) q hq)
      repeat (first | (with_reducible exact Part.refl _ _) | refine Part.set ?_ (by simp) _)
theorem refMerge_y1a (hA : Ext .u64 w A f1.bu) (hB : Ext .u64 w B f2.bu) (hl1 : f1.bu.length ≤ 17592186044416) (h01 : ∀ (j : Nat) (x : Int), f1.bu[j]? = some x → 0 ≤ x) (h02 : ∀ (j : Nat) (x : Int), f2.bu[j]? = some x → 0 ≤ x) (hw1 : checkS l h d f1 = 0) (hw2 : checkS l h d f2 = 0) (hb : 0 ≤ f1.le) (hc : 0 ≤ f2.le) (hd : f2.le < f1.le) (he : f1.gr < f2.gr) :
    Calls Try.prog 26 #[.agg #[.int .i64 l, .int .i64 h, .int .i64 d], .agg #[.int .u64 f1.c, .int .u64 f1.su, .int .i64 f1.le, .int .i64 f1.gr, .slice A f1.bu.length c], .agg #[.int .u64 f2.c, .int .u64 f2.su, .int .i64 f2.le, .int .i64 f2.gr, .slice B f2.bu.length c']] w (RefMerged w f1 f2) := by
  obtain ⟨i0, hi, hz0, hz1, hz2⟩ := info_parts info29
  have HAW := Lib.hid hA
  have HBW := Lib.hid hB
  have HLW := Lib.hid hl1
  have hlen : f1.bu.length = f2.bu.length := by rw [(check_len hw1).2, (check_len hw2).2]
  have hl2 : f2.bu.length ≤ 17592186044416 := by omega
  have hl1 : f1.bu.length ≤ 17592186044416 := by omega
  have HLN := Lib.hid hlen
  have HM : Hid (lem f1.le f2.le = f2.le) := Lib.hid (by unfold lem; rw [if_pos (.inr ⟨hc, hd⟩)])
  have HG : Hid (max f1.gr f2.gr = f2.gr) := Lib.hid (by omega)
  have hb0 : Below w.heap.size w ((((w.alloc (.cells #[.int .i64 l, .int .i64 h, .int .i64 d] 23)).alloc (.cells #[.int .u64 f1.c, .int .u64 f1.su, .int .i64 f1.le, .int .i64 f1.gr, .slice A f1.bu.length c] 44)).alloc (.cells #[.int .u64 f2.c, .int .u64 f2.su, .int .i64 f2.le, .int .i64 f2.gr, .slice B f2.bu.length c'] 44)).alloc (.cells #[.int .u64 0, .int .u64 0, .int .i64 0, .int .i64 0, .slice none 0 0] 44)) := by repeat (first | (with_reducible exact Below.refl _ _) | refine Below.alloc ?_ (by simp; try omega) _)
  have HB0 := Lib.hid hb0
  have HA := Lib.hid (hA.on hb0)
  have HB := Lib.hid (hB.on hb0)
  have H01 := Lib.hid h01
  have H02 := Lib.hid h02
  have HR0 : Hid (Row ((((w.alloc (.cells #[.int .i64 l, .int .i64 h, .int .i64 d] 23)).alloc (.cells #[.int .u64 f1.c, .int .u64 f1.su, .int .i64 f1.le, .int .i64 f1.gr, .slice A f1.bu.length c] 44)).alloc (.cells #[.int .u64 f2.c, .int .u64 f2.su, .int .i64 f2.le, .int .i64 f2.gr, .slice B f2.bu.length c'] 44)).alloc (.cells #[.int .u64 0, .int .u64 0, .int .i64 0, .int .i64 0, .slice none 0 0] 44)) w.heap.size 23 [.int .i64 l, .int .i64 h, .int .i64 d]) := Lib.hid ((((Row.new w _ _).alloc _).alloc _).alloc _)
  have HR1 : Hid (Row ((((w.alloc (.cells #[.int .i64 l, .int .i64 h, .int .i64 d] 23)).alloc (.cells #[.int .u64 f1.c, .int .u64 f1.su, .int .i64 f1.le, .int .i64 f1.gr, .slice A f1.bu.length c] 44)).alloc (.cells #[.int .u64 f2.c, .int .u64 f2.su, .int .i64 f2.le, .int .i64 f2.gr, .slice B f2.bu.length c'] 44)).alloc (.cells #[.int .u64 0, .int .u64 0, .int .i64 0, .int .i64 0, .slice none 0 0] 44)) (w.heap.size + 1) 44 [.int .u64 f1.c, .int .u64 f1.su, .int .i64 f1.le, .int .i64 f1.gr, .slice A f1.bu.length c]) := Lib.hid (((Row.at_ (w := w.alloc _) (by simp)).alloc _).alloc _)
  have HR2 : Hid (Row ((((w.alloc (.cells #[.int .i64 l, .int .i64 h, .int .i64 d] 23)).alloc (.cells #[.int .u64 f1.c, .int .u64 f1.su, .int .i64 f1.le, .int .i64 f1.gr, .slice A f1.bu.length c] 44)).alloc (.cells #[.int .u64 f2.c, .int .u64 f2.su, .int .i64 f2.le, .int .i64 f2.gr, .slice B f2.bu.length c'] 44)).alloc (.cells #[.int .u64 0, .int .u64 0, .int .i64 0, .int .i64 0, .slice none 0 0] 44)) (w.heap.size + 1 + 1) 44 [.int .u64 f2.c, .int .u64 f2.su, .int .i64 f2.le, .int .i64 f2.gr, .slice B f2.bu.length c']) := Lib.hid ((Row.at_ (w := (w.alloc _).alloc _) (by simp)).alloc _)
  have HR3 : Hid (Row ((((w.alloc (.cells #[.int .i64 l, .int .i64 h, .int .i64 d] 23)).alloc (.cells #[.int .u64 f1.c, .int .u64 f1.su, .int .i64 f1.le, .int .i64 f1.gr, .slice A f1.bu.length c] 44)).alloc (.cells #[.int .u64 f2.c, .int .u64 f2.su, .int .i64 f2.le, .int .i64 f2.gr, .slice B f2.bu.length c'] 44)).alloc (.cells #[.int .u64 0, .int .u64 0, .int .i64 0, .int .i64 0, .slice none 0 0] 44)) (w.heap.size + 1 + 1 + 1) 44 [.int .u64 0, .int .u64 0, .int .i64 0, .int .i64 0, .slice none 0 0]) := Lib.hid (Row.at_ (w := ((w.alloc _).alloc _).alloc _) (by simp))
  clear hA hB hb0 h01 h02
  have K1 : Hid (checkP l h d f1.bu f1.c f1.su f1.le f1.gr = 0) := Lib.hid hw1
  have K2 : Hid (checkP l h d f2.bu f2.c f2.su f2.le f2.gr = 0) := Lib.hid hw2
  clear hw1 hw2 hlen
  go_enter Try.func26, Try.ntmps26
  go_wp2_with (first | (go_at_call 28; (with_reducible refine (refCheck_any (xs := f1.bu) HA.out hl1 H01.out).mono ?_); rw [K1.out]; rintro e w4 ⟨rfl, hb⟩; have PA1 := Lib.hid (HA.out.on hb); have PB1 := Lib.hid (HB.out.on hb); have LB1 := Lib.hid (HB0.out.trans (hb.mono HB0.out.size)); have Q01 := Lib.hid (HR0.out.below hb HR0.out.lt); have Q11 := Lib.hid (HR1.out.below hb HR1.out.lt); have Q21 := Lib.hid (HR2.out.below hb HR2.out.lt); have Q31 := Lib.hid (HR3.out.below hb HR3.out.lt); clear hb; have p0 := Q01.out.cell 0; have p1 := Q01.out.cell 1; have p2 := Q01.out.cell 2; obtain ⟨q0, q1, q2, q3, q4⟩ := Q11.out.five; obtain ⟨r0, r1, r2, r3, r4⟩ := Q21.out.five; obtain ⟨t0, t1, t2, t3, t4⟩ := Q31.out.five; have ql := Q11.out.lt; have rl := Q21.out.lt; have tl := Q31.out.lt; have tf := Q31.out.free) | (go_at_call 28; (with_reducible refine (refCheck_any (xs := f2.bu) PB1.out hl2 H02.out).mono ?_); rw [K2.out]; rintro e w5 ⟨rfl, hb⟩; have PA2 := Lib.hid (PA1.out.on hb); have PB2 := Lib.hid (PB1.out.on hb); have LB2 := Lib.hid (LB1.out.trans (hb.mono LB1.out.size)); have Q02 := Lib.hid (Q01.out.below hb Q01.out.lt); have Q12 := Lib.hid (Q11.out.below hb Q11.out.lt); have Q22 := Lib.hid (Q21.out.below hb Q21.out.lt); have Q32 := Lib.hid (Q31.out.below hb Q31.out.lt); clear hb; have p0 := Q02.out.cell 0; have p1 := Q02.out.cell 1; have p2 := Q02.out.cell 2; obtain ⟨q0, q1, q2, q3, q4⟩ := Q12.out.five; obtain ⟨r0, r1, r2, r3, r4⟩ := Q22.out.five; obtain ⟨t0, t1, t2, t3, t4⟩ := Q32.out.five; have ql := Q12.out.lt; have rl := Q22.out.lt; have tl := Q32.out.lt; have tf := Q32.out.free))
  go_loopw [10] (fun i wr => ∃ (k : Nat) (v : Value), k ≤ f1.bu.length ∧ i = .int .i64 k ∧ RefMid w f1 f2 A B c c' f2.le f2.gr w5.heap.size v k wr) (fun i _ => f1.bu.length - (intOf i).toNat)
  case atStart => exact ⟨0, _, Nat.zero_le _, rfl, mids_start Q12.out Q22.out Q32.out LB2.out⟩
  case round =>
    obtain ⟨k, v, hk, rfl, hK⟩ := hrel
    have HK := Lib.hid hK
    obtain ⟨q0, q1, q2, q3, q4⟩ := hK.x.five
    obtain ⟨r0, r1, r2, r3, r4⟩ := hK.y.five
    obtain ⟨e0, e1, e2, e3, e4⟩ := hK.box.five
    have ql := hK.x.lt
    have rl := hK.y.lt
    have el := hK.box.lt
    have ef := hK.box.free
    clear hK
    by_cases hlt : k < f1.bu.length
    · obtain ⟨x, hx⟩ : ∃ x, f1.bu[k]? = some x := ⟨f1.bu[k], List.getElem?_eq_getElem hlt⟩
      obtain ⟨y, hy⟩ : ∃ y, f2.bu[k]? = some y := ⟨f2.bu[k]'(by have := HLN.out; omega), List.getElem?_eq_getElem (by have := HLN.out; omega)⟩
      obtain ⟨b1, o1, hA1, hb1x, _⟩ := HAW.out k x hx
      obtain ⟨b1', o1', hA1', _, hcx⟩ := (HAW.out.on HK.out.low) k x hx
      subst hA1
      cases hA1'
      obtain ⟨b2, o2, hB1, hb2x, _⟩ := HBW.out k y hy
      obtain ⟨b2', o2', hB1', _, hcy⟩ := (HBW.out.on HK.out.low) k y hy
      subst hB1
      cases hB1'
      have HT := Lib.hid (addU_snoc hx hy)
      have H3 : Hid (k + 1 ≤ maxLen) := Lib.hid (by unfold maxLen; have := HLW.out; omega)
      have H4 : Hid ((k + 1) * 8 ≤ 140737488355328) := Lib.hid (by have := HLW.out; omega)
      have H5 : Hid (w.heap.size ≤ (wr.alloc (.cells #[.int .u64 (IntKind.u64.wrap (x + y))] 38)).heap.size) := Lib.hid (by have := HK.out.low.size; simp; omega)
      have hlt' : (k : Int) < (f1.bu.length : Int) := by omega
      have hlt2 : (k : Int) < (f2.bu.length : Int) := by have := HLN.out; omega
      clear hx hy
      obtain ⟨b1x, b2x⟩ : b1 < w.heap.size ∧ b2 < w.heap.size := ⟨hb1x, hb2x⟩
      have HC1 := Lib.hid hcx
      have bx1 : b1 < wr.heap.size := Nat.lt_of_lt_of_le hb1x HK.out.low.size
      have bx2 : b2 < wr.heap.size := Nat.lt_of_lt_of_le hb2x HK.out.low.size
      have hbA : Below wr.heap.size wr (wr.alloc (.cells #[.int .u64 (IntKind.u64.wrap (x + y))] 38)) := (Below.refl _ _).alloc (Nat.le_refl _) _
      have y1 : wr.drew.cell? ⟨w.heap.size + 1, 4, none⟩ = some (.slice (some ⟨b1, o1, none⟩) f1.bu.length c) := q4
      have y2 : wr.drew.cell? ⟨w.heap.size + 1 + 1, 4, none⟩ = some (.slice (some ⟨b2, o2, none⟩) f2.bu.length c') := r4
      have y3 : wr.drew.cell? ⟨w5.heap.size, 4, none⟩ = some v := e4
      have y4 : wr.drew.cell? ⟨b1, o1 + k, none⟩ = some (.int .u64 x) := hcx
      have y5 : wr.drew.cell? ⟨b2, o2 + k, none⟩ = some (.int .u64 y) := hcy
      have z1 : (wr.alloc (.cells #[.int .u64 (IntKind.u64.wrap (x + y))] 38)).drew.cell? ⟨w.heap.size + 1, 4, none⟩ = some (.slice (some ⟨b1, o1, none⟩) f1.bu.length c) := (hbA.cell (p := ⟨w.heap.size + 1, 4, none⟩) ql).trans q4
      have z2 : (wr.alloc (.cells #[.int .u64 (IntKind.u64.wrap (x + y))] 38)).drew.cell? ⟨w.heap.size + 1 + 1, 4, none⟩ = some (.slice (some ⟨b2, o2, none⟩) f2.bu.length c') := (hbA.cell (p := ⟨w.heap.size + 1 + 1, 4, none⟩) rl).trans r4
      have z3 : (wr.alloc (.cells #[.int .u64 (IntKind.u64.wrap (x + y))] 38)).drew.cell? ⟨w5.heap.size, 4, none⟩ = some v := (hbA.cell (p := ⟨w5.heap.size, 4, none⟩) el).trans e4
      have z4 : (wr.alloc (.cells #[.int .u64 (IntKind.u64.wrap (x + y))] 38)).drew.cell? ⟨b1, o1 + k, none⟩ = some (.int .u64 x) := (hbA.cell (p := ⟨b1, o1 + k, none⟩) bx1).trans hcx
      have z5 : (wr.alloc (.cells #[.int .u64 (IntKind.u64.wrap (x + y))] 38)).drew.cell? ⟨b2, o2 + k, none⟩ = some (.int .u64 y) := (hbA.cell (p := ⟨b2, o2 + k, none⟩) bx2).trans hcy
      clear hbA
      have HC2 := Lib.hid hcy
      go_wp2_with fail
      refine wp_region_held_drew (S := (fun w' => w'.cell? ⟨w.heap.size + 1, 4, none⟩ = some (.slice (some ⟨b1, o1, none⟩) f1.bu.length c) ∧ w'.cell? ⟨w.heap.size + 1 + 1, 4, none⟩ = some (.slice (some ⟨b2, o2, none⟩) f2.bu.length c') ∧ w'.cell? ⟨b1, o1 + k, none⟩ = some (.int .u64 x) ∧ w'.cell? ⟨b2, o2 + k, none⟩ = some (.int .u64 y))) (by kernel_rfl) ?_ (fun hHeld0 => ?_)
      · try dsimp only
        exact ⟨y1, y2, y4, y5⟩
      refine wpAnyH_take (i := 0) (oi := { dst := some 71, op := Op.fieldAddr 44 (Operand.tmp 9) 4, type := 0, pos := "ref.go:217", after := #[], guard := none }) (v := ?_) rfl (by kernel_rfl) (by kernel_rfl) (by kernel_rfl) (fun _ _ _ h => h) (Or.inl ⟨by rfl, ?_⟩) (by assumption) ?_
      rotate_left
      · intro wq hSq
        try dsimp only at hSq
        go_simp
        try (with_reducible rfl)
      try simp only [Act.put, List.setIfInBounds_toArray, List.set_cons_zero, List.set_cons_succ]
      refine wpAnyH_take (i := 2) (oi := { dst := some 73, op := Op.fieldAddr 44 (Operand.tmp 4) 4, type := 0, pos := "ref.go:217", after := #[], guard := none }) (v := ?_) rfl (by kernel_rfl) (by kernel_rfl) (by kernel_rfl) (fun _ _ _ h => h) (Or.inl ⟨by rfl, ?_⟩) (by assumption) ?_
      rotate_left
      · intro wq hSq
        try dsimp only at hSq
        go_simp
        try (with_reducible rfl)
      try simp only [Act.put, List.setIfInBounds_toArray, List.set_cons_zero, List.set_cons_succ]
      refine wpAnyH_take (i := 3) (oi := { dst := some 74, op := Op.load 42 (Operand.tmp 73), type := 42, pos := "ref.go:217", after := #[{ on := 2, ground := Ground.data }], guard := none }) (v := ?_) rfl (by kernel_rfl) (by kernel_rfl) (by kernel_rfl) (fun _ _ _ h => h) (Or.inl ⟨by rfl, ?_⟩) (by assumption) ?_
      rotate_left
      · intro wq hSq
        try dsimp only at hSq
        go_simp
        try (with_reducible rfl)
      try simp only [Act.put, List.setIfInBounds_toArray, List.set_cons_zero, List.set_cons_succ]
      refine wpAnyH_take (i := 4) (oi := { dst := some 75, op := Op.move (Operand.tmp 10), type := 3, pos := "ref.go:217", after := #[], guard := none }) (v := ?_) rfl (by kernel_rfl) (by kernel_rfl) (by kernel_rfl) (fun _ _ _ h => h) (Or.inl ⟨by rfl, ?_⟩) (by assumption) ?_
      rotate_left
      · intro wq hSq
        try dsimp only at hSq
        go_simp
        try (with_reducible rfl)
      try simp only [Act.put, List.setIfInBounds_toArray, List.set_cons_zero, List.set_cons_succ]
      refine wpAnyH_take (i := 5) (oi := { dst := some 76, op := Op.indexAddr 42 (Operand.tmp 74) (Operand.tmp 75), type := 0, pos := "ref.go:217", after := #[{ on := 3, ground := Ground.data }, { on := 4, ground := Ground.data }], guard := none }) (v := ?_) rfl (by kernel_rfl) (by kernel_rfl) (by kernel_rfl) (fun _ _ _ h => h) (Or.inl ⟨by rfl, ?_⟩) (by assumption) ?_
      rotate_left
      · intro wq hSq
        try dsimp only at hSq
        go_simp
        try (with_reducible rfl)
      try simp only [Act.put, List.setIfInBounds_toArray, List.set_cons_zero, List.set_cons_succ]
      refine wpAnyH_take (i := 6) (oi := { dst := some 77, op := Op.load 38 (Operand.tmp 76), type := 38, pos := "ref.go:217", after := #[{ on := 5, ground := Ground.data }], guard := none }) (v := ?_) rfl (by kernel_rfl) (by kernel_rfl) (by kernel_rfl) (fun _ _ _ h => h) (Or.inl ⟨by rfl, ?_⟩) (by assumption) ?_
      rotate_left
      · intro wq hSq
        try dsimp only at hSq
        go_simp
        try (with_reducible rfl)
      try simp only [Act.put, List.setIfInBounds_toArray, List.set_cons_zero, List.set_cons_succ]
      refine wpAnyH_take (i := 7) (oi := { dst := some 78, op := Op.fieldAddr 44 (Operand.tmp 5) 4, type := 0, pos := "ref.go:217", after := #[], guard := none }) (v := ?_) rfl (by kernel_rfl) (by kernel_rfl) (by kernel_rfl) (fun _ _ _ h => h) (Or.inl ⟨by rfl, ?_⟩) (by assumption) ?_
      rotate_left
      · intro wq hSq
        try dsimp only at hSq
        go_simp
        try (with_reducible rfl)
      try simp only [Act.put, List.setIfInBounds_toArray, List.set_cons_zero, List.set_cons_succ]
      refine wpAnyH_take (i := 8) (oi := { dst := some 79, op := Op.load 42 (Operand.tmp 78), type := 42, pos := "ref.go:217", after := #[{ on := 7, ground := Ground.data }], guard := none }) (v := ?_) rfl (by kernel_rfl) (by kernel_rfl) (by kernel_rfl) (fun _ _ _ h => h) (Or.inl ⟨by rfl, ?_⟩) (by assumption) ?_
      rotate_left
      · intro wq hSq
        try dsimp only at hSq
        go_simp
        try (with_reducible rfl)
      try simp only [Act.put, List.setIfInBounds_toArray, List.set_cons_zero, List.set_cons_succ]
      refine wpAnyH_take (i := 9) (oi := { dst := some 80, op := Op.move (Operand.tmp 10), type := 3, pos := "ref.go:217", after := #[], guard := none }) (v := ?_) rfl (by kernel_rfl) (by kernel_rfl) (by kernel_rfl) (fun _ _ _ h => h) (Or.inl ⟨by rfl, ?_⟩) (by assumption) ?_
      rotate_left
      · intro wq hSq
        try dsimp only at hSq
        go_simp
        try (with_reducible rfl)
      try simp only [Act.put, List.setIfInBounds_toArray, List.set_cons_zero, List.set_cons_succ]
      refine wpAnyH_take (i := 10) (oi := { dst := some 81, op := Op.indexAddr 42 (Operand.tmp 79) (Operand.tmp 80), type := 0, pos := "ref.go:217", after := #[{ on := 8, ground := Ground.data }, { on := 9, ground := Ground.data }], guard := none }) (v := ?_) rfl (by kernel_rfl) (by kernel_rfl) (by kernel_rfl) (fun _ _ _ h => h) (Or.inl ⟨by rfl, ?_⟩) (by assumption) ?_
      rotate_left
      · intro wq hSq
        try dsimp only at hSq
        go_simp
        try (with_reducible rfl)
      try simp only [Act.put, List.setIfInBounds_toArray, List.set_cons_zero, List.set_cons_succ]
      refine wpAnyH_take (i := 11) (oi := { dst := some 82, op := Op.load 38 (Operand.tmp 81), type := 38, pos := "ref.go:217", after := #[{ on := 10, ground := Ground.data }], guard := none }) (v := ?_) rfl (by kernel_rfl) (by kernel_rfl) (by kernel_rfl) (fun _ _ _ h => h) (Or.inl ⟨by rfl, ?_⟩) (by assumption) ?_
      rotate_left
      · intro wq hSq
        try dsimp only at hSq
        go_simp
        try (with_reducible rfl)
      try simp only [Act.put, List.setIfInBounds_toArray, List.set_cons_zero, List.set_cons_succ]
      refine wpAnyH_take (i := 12) (oi := { dst := some 83, op := Op.binOp BinOp.add 38 (Operand.tmp 77) (Operand.tmp 82) 38, type := 38, pos := "ref.go:217", after := #[{ on := 6, ground := Ground.data }, { on := 11, ground := Ground.data }], guard := none }) (v := ?_) rfl (by kernel_rfl) (by kernel_rfl) (by kernel_rfl) (fun _ _ _ h => h) (Or.inl ⟨by rfl, ?_⟩) (by assumption) ?_
      rotate_left
      · intro wq hSq
        try dsimp only at hSq
        go_simp
        try (with_reducible rfl)
      try simp only [Act.put, List.setIfInBounds_toArray, List.set_cons_zero, List.set_cons_succ]
      refine wpAnyH_ready (rs := [1, 13]) (by kernel_rfl) (by simp) ?_
      refine AllReadyH.cons (o := { dst := some 72, op := Op.load 42 (Operand.tmp 71), type := 42, pos := "ref.go:217", after := #[{ on := 0, ground := Ground.data }], guard := none }) rfl (fun K hK => ?_) (AllReadyH.cons (o := { dst := some 84, op := Op.buildSlice 42 1 #[(0, Operand.tmp 83)], type := 42, pos := "ref.go:217", after := #[{ on := 12, ground := Ground.data }], guard := none }) rfl (fun K hK => ?_) AllReadyH.nil)
      · go_simp
        refine hK.out _ _ (by exact ⟨y1, y2, y4, y5⟩) (fun hHeldA => ?_)
        clear hK K hHeld0
        try simp only [Act.put, List.setIfInBounds_toArray, List.set_cons_zero, List.set_cons_succ]
        refine wpAnyH_ready (rs := [13]) (by kernel_rfl) (by simp) ?_
        refine AllReadyH.cons (o := { dst := some 84, op := Op.buildSlice 42 1 #[(0, Operand.tmp 83)], type := 42, pos := "ref.go:217", after := #[{ on := 12, ground := Ground.data }], guard := none }) rfl (fun K hK => ?_) AllReadyH.nil
        go_simp
        refine hK.out _ _ (by exact ⟨z1, z2, z4, z5⟩) (fun hHeldB => ?_)
        clear hK K hHeldA
        try simp only [Act.put, List.setIfInBounds_toArray, List.set_cons_zero, List.set_cons_succ]
        refine wpAnyH_ready (rs := [14]) (by kernel_rfl) (by simp) ?_
        refine AllReadyH.cons (o := { dst := some 85, op := Op.call { callee := Callee.builtin Builtin.append, args := #[Operand.tmp 72, Operand.tmp 84], argTypes := #[42, 42] }, type := 42, pos := "ref.go:217", after := #[{ on := 1, ground := Ground.data }, { on := 13, ground := Ground.data }], guard := none }) rfl (fun K hK => ?_) AllReadyH.nil
        refine step_append_lies _ (by rfl) _ _ _ (by rfl) w.heap.size 38 i0 _ 1 8 Try.underlying42 hi hz0 hz1 hz2 rfl (by omega) _ k (u64s ((addU f1.bu f2.bu).take k)) (by rfl) (own_part HK.out.own (Part.of_below (by first | exact ((Below.refl _ _).alloc (Nat.le_refl _) _).drew | exact ((Below.refl _ _).drew).alloc (Nat.le_refl _) _ | exact (Below.refl _ _).alloc (Nat.le_refl _) _) (Nat.le_refl _) []) (by simp)) ⟨wr.heap.size, 0, none⟩ 1 1 [.int .u64 (IntKind.u64.wrap (x + y))] (by rfl) (by rfl) (World.news_of_block (cs := #[.int .u64 (IntKind.u64.wrap (x + y))]) (t := 38) (fr := (0, 0)) (heap_alloc_new wr _)) (by simp [Value.oneCell']) (by omega) H3.out H4.out (by have := H5.out; simp; omega) (wr.heap.size + 1) (by simp) ?_; intro gg gcap w6 hown6 hgr6 hat6 hlt6; have HK1 := Lib.hid (HK.out.grow (by first | exact ((Below.refl _ _).alloc (Nat.le_refl _) _).drew | exact ((Below.refl _ _).drew).alloc (Nat.le_refl _) _ | exact (Below.refl _ _).alloc (Nat.le_refl _) _) HT.out hown6 hgr6); have v1 : w6.cell? ⟨w.heap.size + 1, 4, none⟩ = some (.slice (some ⟨b1, o1, none⟩) f1.bu.length c) := HK1.out.1.1.cell 4; have v2 : w6.cell? ⟨w.heap.size + 1 + 1, 4, none⟩ = some (.slice (some ⟨b2, o2, none⟩) f2.bu.length c') := HK1.out.1.2.1.cell 4; have v3 : w6.cell? ⟨w5.heap.size, 4, none⟩ = some v := HK1.out.1.2.2.1.cell 4; have v4 : w6.cell? ⟨b1, o1 + k, none⟩ = some (.int .u64 x) := HK1.out.1.2.2.2 ⟨b1, o1 + k, none⟩ _ b1x HC1.out; have v5 : w6.cell? ⟨b2, o2 + k, none⟩ = some (.int .u64 y) := HK1.out.1.2.2.2 ⟨b2, o2 + k, none⟩ _ b2x HC2.out; have gl := HK1.out.1.2.2.1.lt; have gf := HK1.out.1.2.2.1.free; have nO1 : w5.heap.size ≠ w.heap.size + 1 := (by have := HK.out.lo; omega); have nO2 : w5.heap.size ≠ w.heap.size + 1 + 1 := (by have := HK.out.lo; omega); have nO3 : w5.heap.size ≠ b1 := (by have := HK.out.lo; omega); have nO4 : w5.heap.size ≠ b2 := (by have := HK.out.lo; omega); have s1 := (World.cell?_setCell_far w6 ⟨w5.heap.size, 4, none⟩ ⟨w.heap.size + 1, 4, none⟩ (.slice (some ⟨gg, 0, none⟩) (k + 1) gcap) nO1).trans v1; have s2 := (World.cell?_setCell_far w6 ⟨w5.heap.size, 4, none⟩ ⟨w.heap.size + 1 + 1, 4, none⟩ (.slice (some ⟨gg, 0, none⟩) (k + 1) gcap) nO2).trans v2; have s4 := (World.cell?_setCell_far w6 ⟨w5.heap.size, 4, none⟩ ⟨b1, o1 + k, none⟩ (.slice (some ⟨gg, 0, none⟩) (k + 1) gcap) nO3).trans v4; have s5 := (World.cell?_setCell_far w6 ⟨w5.heap.size, 4, none⟩ ⟨b2, o2 + k, none⟩ (.slice (some ⟨gg, 0, none⟩) (k + 1) gcap) nO4).trans v5; clear hown6 hgr6 hat6
        refine hK.out _ _ (by exact ⟨v1, v2, v4, v5⟩) (fun hHeldF => ?_)
        clear hK K hHeldB
        try simp only [Act.put, List.setIfInBounds_toArray, List.set_cons_zero, List.set_cons_succ]
        refine wpAnyH_take (i := 15) (oi := { dst := some 86, op := Op.fieldAddr 44 (Operand.tmp 9) 4, type := 0, pos := "ref.go:217", after := #[{ on := 0, ground := Ground.phase }, { on := 1, ground := Ground.phase }, { on := 2, ground := Ground.phase }, { on := 3, ground := Ground.phase }, { on := 4, ground := Ground.phase }, { on := 5, ground := Ground.phase }, { on := 6, ground := Ground.phase }, { on := 7, ground := Ground.phase }, { on := 8, ground := Ground.phase }, { on := 9, ground := Ground.phase }, { on := 10, ground := Ground.phase }, { on := 11, ground := Ground.phase }, { on := 12, ground := Ground.phase }, { on := 13, ground := Ground.phase }, { on := 14, ground := Ground.phase }], guard := none }) (v := ?_) rfl (by kernel_rfl) (by kernel_rfl) (by kernel_rfl) (fun _ _ _ h => h) (Or.inl ⟨by rfl, ?_⟩) (by assumption) ?_
        rotate_left
        · intro wq hSq
          try dsimp only at hSq
          go_simp
          try (with_reducible rfl)
        try simp only [Act.put, List.setIfInBounds_toArray, List.set_cons_zero, List.set_cons_succ]
        refine wpAnyH_ready (rs := [16]) (by kernel_rfl) (by simp) ?_
        refine AllReadyH.cons (o := { dst := none, op := Op.store 42 (Operand.tmp 86) (Operand.tmp 85), type := 0, pos := "ref.go:217", after := #[{ on := 15, ground := Ground.data }, { on := 14, ground := Ground.data }, { on := 14, ground := Ground.chain }, { on := 0, ground := Ground.phase }, { on := 1, ground := Ground.phase }, { on := 2, ground := Ground.phase }, { on := 3, ground := Ground.phase }, { on := 4, ground := Ground.phase }, { on := 5, ground := Ground.phase }, { on := 6, ground := Ground.phase }, { on := 7, ground := Ground.phase }, { on := 8, ground := Ground.phase }, { on := 9, ground := Ground.phase }, { on := 10, ground := Ground.phase }, { on := 11, ground := Ground.phase }, { on := 12, ground := Ground.phase }, { on := 13, ground := Ground.phase }, { on := 14, ground := Ground.phase }], guard := none }) rfl (fun K hK => ?_) AllReadyH.nil
        go_simp
        refine hK.out _ _ (by exact ⟨s1, s2, s4, s5⟩) (fun hHeldG => ?_)
        clear hK K hHeldF
        try simp only [Act.put, List.setIfInBounds_toArray, List.set_cons_zero, List.set_cons_succ]
        refine wpAnyH_done (by kernel_rfl) ?_ _
        go_wp2_with fail
        go_roundw
        case rel => exact ⟨k + 1, _, by omega, by go_num, HK1.out.2⟩
        case measure => simp [intOf]; omega
      · go_simp
        refine hK.out _ _ (by exact ⟨z1, z2, z4, z5⟩) (fun hHeldA => ?_)
        clear hK K hHeld0
        try simp only [Act.put, List.setIfInBounds_toArray, List.set_cons_zero, List.set_cons_succ]
        refine wpAnyH_ready (rs := [1]) (by kernel_rfl) (by simp) ?_
        refine AllReadyH.cons (o := { dst := some 72, op := Op.load 42 (Operand.tmp 71), type := 42, pos := "ref.go:217", after := #[{ on := 0, ground := Ground.data }], guard := none }) rfl (fun K hK => ?_) AllReadyH.nil
        go_simp
        refine hK.out _ _ (by exact ⟨z1, z2, z4, z5⟩) (fun hHeldB => ?_)
        clear hK K hHeldA
        try simp only [Act.put, List.setIfInBounds_toArray, List.set_cons_zero, List.set_cons_succ]
        refine wpAnyH_ready (rs := [14]) (by kernel_rfl) (by simp) ?_
        refine AllReadyH.cons (o := { dst := some 85, op := Op.call { callee := Callee.builtin Builtin.append, args := #[Operand.tmp 72, Operand.tmp 84], argTypes := #[42, 42] }, type := 42, pos := "ref.go:217", after := #[{ on := 1, ground := Ground.data }, { on := 13, ground := Ground.data }], guard := none }) rfl (fun K hK => ?_) AllReadyH.nil
        refine step_append_lies _ (by rfl) _ _ _ (by rfl) w.heap.size 38 i0 _ 1 8 Try.underlying42 hi hz0 hz1 hz2 rfl (by omega) _ k (u64s ((addU f1.bu f2.bu).take k)) (by rfl) (own_part HK.out.own (Part.of_below (by first | exact ((Below.refl _ _).alloc (Nat.le_refl _) _).drew | exact ((Below.refl _ _).drew).alloc (Nat.le_refl _) _ | exact (Below.refl _ _).alloc (Nat.le_refl _) _) (Nat.le_refl _) []) (by simp)) ⟨wr.heap.size, 0, none⟩ 1 1 [.int .u64 (IntKind.u64.wrap (x + y))] (by rfl) (by rfl) (World.news_of_block (cs := #[.int .u64 (IntKind.u64.wrap (x + y))]) (t := 38) (fr := (0, 0)) (heap_alloc_new wr _)) (by simp [Value.oneCell']) (by omega) H3.out H4.out (by have := H5.out; simp; omega) (wr.heap.size + 1) (by simp) ?_; intro gg gcap w6 hown6 hgr6 hat6 hlt6; have HK1 := Lib.hid (HK.out.grow (by first | exact ((Below.refl _ _).alloc (Nat.le_refl _) _).drew | exact ((Below.refl _ _).drew).alloc (Nat.le_refl _) _ | exact (Below.refl _ _).alloc (Nat.le_refl _) _) HT.out hown6 hgr6); have v1 : w6.cell? ⟨w.heap.size + 1, 4, none⟩ = some (.slice (some ⟨b1, o1, none⟩) f1.bu.length c) := HK1.out.1.1.cell 4; have v2 : w6.cell? ⟨w.heap.size + 1 + 1, 4, none⟩ = some (.slice (some ⟨b2, o2, none⟩) f2.bu.length c') := HK1.out.1.2.1.cell 4; have v3 : w6.cell? ⟨w5.heap.size, 4, none⟩ = some v := HK1.out.1.2.2.1.cell 4; have v4 : w6.cell? ⟨b1, o1 + k, none⟩ = some (.int .u64 x) := HK1.out.1.2.2.2 ⟨b1, o1 + k, none⟩ _ b1x HC1.out; have v5 : w6.cell? ⟨b2, o2 + k, none⟩ = some (.int .u64 y) := HK1.out.1.2.2.2 ⟨b2, o2 + k, none⟩ _ b2x HC2.out; have gl := HK1.out.1.2.2.1.lt; have gf := HK1.out.1.2.2.1.free; have nO1 : w5.heap.size ≠ w.heap.size + 1 := (by have := HK.out.lo; omega); have nO2 : w5.heap.size ≠ w.heap.size + 1 + 1 := (by have := HK.out.lo; omega); have nO3 : w5.heap.size ≠ b1 := (by have := HK.out.lo; omega); have nO4 : w5.heap.size ≠ b2 := (by have := HK.out.lo; omega); have s1 := (World.cell?_setCell_far w6 ⟨w5.heap.size, 4, none⟩ ⟨w.heap.size + 1, 4, none⟩ (.slice (some ⟨gg, 0, none⟩) (k + 1) gcap) nO1).trans v1; have s2 := (World.cell?_setCell_far w6 ⟨w5.heap.size, 4, none⟩ ⟨w.heap.size + 1 + 1, 4, none⟩ (.slice (some ⟨gg, 0, none⟩) (k + 1) gcap) nO2).trans v2; have s4 := (World.cell?_setCell_far w6 ⟨w5.heap.size, 4, none⟩ ⟨b1, o1 + k, none⟩ (.slice (some ⟨gg, 0, none⟩) (k + 1) gcap) nO3).trans v4; have s5 := (World.cell?_setCell_far w6 ⟨w5.heap.size, 4, none⟩ ⟨b2, o2 + k, none⟩ (.slice (some ⟨gg, 0, none⟩) (k + 1) gcap) nO4).trans v5; clear hown6 hgr6 hat6
        refine hK.out _ _ (by exact ⟨v1, v2, v4, v5⟩) (fun hHeldF => ?_)
        clear hK K hHeldB
        try simp only [Act.put, List.setIfInBounds_toArray, List.set_cons_zero, List.set_cons_succ]
        refine wpAnyH_take (i := 15) (oi := { dst := some 86, op := Op.fieldAddr 44 (Operand.tmp 9) 4, type := 0, pos := "ref.go:217", after := #[{ on := 0, ground := Ground.phase }, { on := 1, ground := Ground.phase }, { on := 2, ground := Ground.phase }, { on := 3, ground := Ground.phase }, { on := 4, ground := Ground.phase }, { on := 5, ground := Ground.phase }, { on := 6, ground := Ground.phase }, { on := 7, ground := Ground.phase }, { on := 8, ground := Ground.phase }, { on := 9, ground := Ground.phase }, { on := 10, ground := Ground.phase }, { on := 11, ground := Ground.phase }, { on := 12, ground := Ground.phase }, { on := 13, ground := Ground.phase }, { on := 14, ground := Ground.phase }], guard := none }) (v := ?_) rfl (by kernel_rfl) (by kernel_rfl) (by kernel_rfl) (fun _ _ _ h => h) (Or.inl ⟨by rfl, ?_⟩) (by assumption) ?_
        rotate_left
        · intro wq hSq
          try dsimp only at hSq
          go_simp
          try (with_reducible rfl)
        try simp only [Act.put, List.setIfInBounds_toArray, List.set_cons_zero, List.set_cons_succ]
        refine wpAnyH_ready (rs := [16]) (by kernel_rfl) (by simp) ?_
        refine AllReadyH.cons (o := { dst := none, op := Op.store 42 (Operand.tmp 86) (Operand.tmp 85), type := 0, pos := "ref.go:217", after := #[{ on := 15, ground := Ground.data }, { on := 14, ground := Ground.data }, { on := 14, ground := Ground.chain }, { on := 0, ground := Ground.phase }, { on := 1, ground := Ground.phase }, { on := 2, ground := Ground.phase }, { on := 3, ground := Ground.phase }, { on := 4, ground := Ground.phase }, { on := 5, ground := Ground.phase }, { on := 6, ground := Ground.phase }, { on := 7, ground := Ground.phase }, { on := 8, ground := Ground.phase }, { on := 9, ground := Ground.phase }, { on := 10, ground := Ground.phase }, { on := 11, ground := Ground.phase }, { on := 12, ground := Ground.phase }, { on := 13, ground := Ground.phase }, { on := 14, ground := Ground.phase }], guard := none }) rfl (fun K hK => ?_) AllReadyH.nil
        go_simp
        refine hK.out _ _ (by exact ⟨s1, s2, s4, s5⟩) (fun hHeldG => ?_)
        clear hK K hHeldF
        try simp only [Act.put, List.setIfInBounds_toArray, List.set_cons_zero, List.set_cons_succ]
        refine wpAnyH_done (by kernel_rfl) ?_ _
        go_wp2_with fail
        go_roundw
        case rel => exact ⟨k + 1, _, by omega, by go_num, HK1.out.2⟩
        case measure => simp [intOf]; omega
    · obtain rfl : k = f1.bu.length := by omega
      obtain ⟨t0, t1, t2, t3, t4⟩ := HK.out.res.five
      have tl := HK.out.res.lt
      have tf := HK.out.res.free
      obtain ⟨a5, c5, rfl⟩ := own_form HK.out.own
      go_wp2
      refine bodyPost_ret (v := .tuple #[.agg #[.int .u64 (IntKind.u64.wrap (f1.c + f2.c)), .int .u64 (IntKind.u64.wrap (f1.su + f2.su)), .int .i64 f2.le, .int .i64 f2.gr, .slice a5 f1.bu.length c5], .int .i64 0]) (by simp [results, Try.results26, go_sem, t0, t1, t2, t3, t4]) rfl ?_
      suffices hE : Part [w.heap.size + 1 + 1 + 1] wr _ from by
        refine ⟨a5, c5, by rw [HM.out, HG.out], ?_, HK.out.low.trans (hE.below HK.out.low.size (by simp; omega))⟩
        have ho := HK.out.own
        rw [show (addU f1.bu f2.bu).take f1.bu.length = addU f1.bu f2.bu from List.take_of_length_le (by simp [addU]; omega)] at ho
        exact own_part ho hE (fun q hq => by simpa using own_off ho HK.out.res (by decide) q hq)
      repeat (first | (with_reducible exact Part.refl _ _) | refine Part.set ?_ (by simp) _)
theorem refMerge_y1b (hA : Ext .u64 w A f1.bu) (hB : Ext .u64 w B f2.bu) (hl1 : f1.bu.length ≤ 17592186044416) (h01 : ∀ (j : Nat) (x : Int), f1.bu[j]? = some x → 0 ≤ x) (h02 : ∀ (j : Nat) (x : Int), f2.bu[j]? = some x → 0 ≤ x) (hw1 : checkS l h d f1 = 0) (hw2 : checkS l h d f2 = 0) (hb : 0 ≤ f1.le) (hc : 0 ≤ f2.le) (hd : f2.le < f1.le) (he : f2.gr ≤ f1.gr) :
    Calls Try.prog 26 #[.agg #[.int .i64 l, .int .i64 h, .int .i64 d], .agg #[.int .u64 f1.c, .int .u64 f1.su, .int .i64 f1.le, .int .i64 f1.gr, .slice A f1.bu.length c], .agg #[.int .u64 f2.c, .int .u64 f2.su, .int .i64 f2.le, .int .i64 f2.gr, .slice B f2.bu.length c']] w (RefMerged w f1 f2) := by
  obtain ⟨i0, hi, hz0, hz1, hz2⟩ := info_parts info29
  have HAW := Lib.hid hA
  have HBW := Lib.hid hB
  have HLW := Lib.hid hl1
  have hlen : f1.bu.length = f2.bu.length := by rw [(check_len hw1).2, (check_len hw2).2]
  have hl2 : f2.bu.length ≤ 17592186044416 := by omega
  have hl1 : f1.bu.length ≤ 17592186044416 := by omega
  have HLN := Lib.hid hlen
  have HM : Hid (lem f1.le f2.le = f2.le) := Lib.hid (by unfold lem; rw [if_pos (.inr ⟨hc, hd⟩)])
  have HG : Hid (max f1.gr f2.gr = f1.gr) := Lib.hid (by omega)
  have hb0 : Below w.heap.size w ((((w.alloc (.cells #[.int .i64 l, .int .i64 h, .int .i64 d] 23)).alloc (.cells #[.int .u64 f1.c, .int .u64 f1.su, .int .i64 f1.le, .int .i64 f1.gr, .slice A f1.bu.length c] 44)).alloc (.cells #[.int .u64 f2.c, .int .u64 f2.su, .int .i64 f2.le, .int .i64 f2.gr, .slice B f2.bu.length c'] 44)).alloc (.cells #[.int .u64 0, .int .u64 0, .int .i64 0, .int .i64 0, .slice none 0 0] 44)) := by repeat (first | (with_reducible exact Below.refl _ _) | refine Below.alloc ?_ (by simp; try omega) _)
  have HB0 := Lib.hid hb0
  have HA := Lib.hid (hA.on hb0)
  have HB := Lib.hid (hB.on hb0)
  have H01 := Lib.hid h01
  have H02 := Lib.hid h02
  have HR0 : Hid (Row ((((w.alloc (.cells #[.int .i64 l, .int .i64 h, .int .i64 d] 23)).alloc (.cells #[.int .u64 f1.c, .int .u64 f1.su, .int .i64 f1.le, .int .i64 f1.gr, .slice A f1.bu.length c] 44)).alloc (.cells #[.int .u64 f2.c, .int .u64 f2.su, .int .i64 f2.le, .int .i64 f2.gr, .slice B f2.bu.length c'] 44)).alloc (.cells #[.int .u64 0, .int .u64 0, .int .i64 0, .int .i64 0, .slice none 0 0] 44)) w.heap.size 23 [.int .i64 l, .int .i64 h, .int .i64 d]) := Lib.hid ((((Row.new w _ _).alloc _).alloc _).alloc _)
  have HR1 : Hid (Row ((((w.alloc (.cells #[.int .i64 l, .int .i64 h, .int .i64 d] 23)).alloc (.cells #[.int .u64 f1.c, .int .u64 f1.su, .int .i64 f1.le, .int .i64 f1.gr, .slice A f1.bu.length c] 44)).alloc (.cells #[.int .u64 f2.c, .int .u64 f2.su, .int .i64 f2.le, .int .i64 f2.gr, .slice B f2.bu.length c'] 44)).alloc (.cells #[.int .u64 0, .int .u64 0, .int .i64 0, .int .i64 0, .slice none 0 0] 44)) (w.heap.size + 1) 44 [.int .u64 f1.c, .int .u64 f1.su, .int .i64 f1.le, .int .i64 f1.gr, .slice A f1.bu.length c]) := Lib.hid (((Row.at_ (w := w.alloc _) (by simp)).alloc _).alloc _)
  have HR2 : Hid (Row ((((w.alloc (.cells #[.int .i64 l, .int .i64 h, .int .i64 d] 23)).alloc (.cells #[.int .u64 f1.c, .int .u64 f1.su, .int .i64 f1.le, .int .i64 f1.gr, .slice A f1.bu.length c] 44)).alloc (.cells #[.int .u64 f2.c, .int .u64 f2.su, .int .i64 f2.le, .int .i64 f2.gr, .slice B f2.bu.length c'] 44)).alloc (.cells #[.int .u64 0, .int .u64 0, .int .i64 0, .int .i64 0, .slice none 0 0] 44)) (w.heap.size + 1 + 1) 44 [.int .u64 f2.c, .int .u64 f2.su, .int .i64 f2.le, .int .i64 f2.gr, .slice B f2.bu.length c']) := Lib.hid ((Row.at_ (w := (w.alloc _).alloc _) (by simp)).alloc _)
  have HR3 : Hid (Row ((((w.alloc (.cells #[.int .i64 l, .int .i64 h, .int .i64 d] 23)).alloc (.cells #[.int .u64 f1.c, .int .u64 f1.su, .int .i64 f1.le, .int .i64 f1.gr, .slice A f1.bu.length c] 44)).alloc (.cells #[.int .u64 f2.c, .int .u64 f2.su, .int .i64 f2.le, .int .i64 f2.gr, .slice B f2.bu.length c'] 44)).alloc (.cells #[.int .u64 0, .int .u64 0, .int .i64 0, .int .i64 0, .slice none 0 0] 44)) (w.heap.size + 1 + 1 + 1) 44 [.int .u64 0, .int .u64 0, .int .i64 0, .int .i64 0, .slice none 0 0]) := Lib.hid (Row.at_ (w := ((w.alloc _).alloc _).alloc _) (by simp))
  clear hA hB hb0 h01 h02
  have K1 : Hid (checkP l h d f1.bu f1.c f1.su f1.le f1.gr = 0) := Lib.hid hw1
  have K2 : Hid (checkP l h d f2.bu f2.c f2.su f2.le f2.gr = 0) := Lib.hid hw2
  clear hw1 hw2 hlen
  go_enter Try.func26, Try.ntmps26
  go_wp2_with (first | (go_at_call 28; (with_reducible refine (refCheck_any (xs := f1.bu) HA.out hl1 H01.out).mono ?_); rw [K1.out]; rintro e w4 ⟨rfl, hb⟩; have PA1 := Lib.hid (HA.out.on hb); have PB1 := Lib.hid (HB.out.on hb); have LB1 := Lib.hid (HB0.out.trans (hb.mono HB0.out.size)); have Q01 := Lib.hid (HR0.out.below hb HR0.out.lt); have Q11 := Lib.hid (HR1.out.below hb HR1.out.lt); have Q21 := Lib.hid (HR2.out.below hb HR2.out.lt); have Q31 := Lib.hid (HR3.out.below hb HR3.out.lt); clear hb; have p0 := Q01.out.cell 0; have p1 := Q01.out.cell 1; have p2 := Q01.out.cell 2; obtain ⟨q0, q1, q2, q3, q4⟩ := Q11.out.five; obtain ⟨r0, r1, r2, r3, r4⟩ := Q21.out.five; obtain ⟨t0, t1, t2, t3, t4⟩ := Q31.out.five; have ql := Q11.out.lt; have rl := Q21.out.lt; have tl := Q31.out.lt; have tf := Q31.out.free) | (go_at_call 28; (with_reducible refine (refCheck_any (xs := f2.bu) PB1.out hl2 H02.out).mono ?_); rw [K2.out]; rintro e w5 ⟨rfl, hb⟩; have PA2 := Lib.hid (PA1.out.on hb); have PB2 := Lib.hid (PB1.out.on hb); have LB2 := Lib.hid (LB1.out.trans (hb.mono LB1.out.size)); have Q02 := Lib.hid (Q01.out.below hb Q01.out.lt); have Q12 := Lib.hid (Q11.out.below hb Q11.out.lt); have Q22 := Lib.hid (Q21.out.below hb Q21.out.lt); have Q32 := Lib.hid (Q31.out.below hb Q31.out.lt); clear hb; have p0 := Q02.out.cell 0; have p1 := Q02.out.cell 1; have p2 := Q02.out.cell 2; obtain ⟨q0, q1, q2, q3, q4⟩ := Q12.out.five; obtain ⟨r0, r1, r2, r3, r4⟩ := Q22.out.five; obtain ⟨t0, t1, t2, t3, t4⟩ := Q32.out.five; have ql := Q12.out.lt; have rl := Q22.out.lt; have tl := Q32.out.lt; have tf := Q32.out.free))
  go_loopw [10] (fun i wr => ∃ (k : Nat) (v : Value), k ≤ f1.bu.length ∧ i = .int .i64 k ∧ RefMid w f1 f2 A B c c' f2.le f1.gr w5.heap.size v k wr) (fun i _ => f1.bu.length - (intOf i).toNat)
  case atStart => exact ⟨0, _, Nat.zero_le _, rfl, mids_start Q12.out Q22.out Q32.out LB2.out⟩
  case round =>
    obtain ⟨k, v, hk, rfl, hK⟩ := hrel
    have HK := Lib.hid hK
    obtain ⟨q0, q1, q2, q3, q4⟩ := hK.x.five
    obtain ⟨r0, r1, r2, r3, r4⟩ := hK.y.five
    obtain ⟨e0, e1, e2, e3, e4⟩ := hK.box.five
    have ql := hK.x.lt
    have rl := hK.y.lt
    have el := hK.box.lt
    have ef := hK.box.free
    clear hK
    by_cases hlt : k < f1.bu.length
    · obtain ⟨x, hx⟩ : ∃ x, f1.bu[k]? = some x := ⟨f1.bu[k], List.getElem?_eq_getElem hlt⟩
      obtain ⟨y, hy⟩ : ∃ y, f2.bu[k]? = some y := ⟨f2.bu[k]'(by have := HLN.out; omega), List.getElem?_eq_getElem (by have := HLN.out; omega)⟩
      obtain ⟨b1, o1, hA1, hb1x, _⟩ := HAW.out k x hx
      obtain ⟨b1', o1', hA1', _, hcx⟩ := (HAW.out.on HK.out.low) k x hx
      subst hA1
      cases hA1'
      obtain ⟨b2, o2, hB1, hb2x, _⟩ := HBW.out k y hy
      obtain ⟨b2', o2', hB1', _, hcy⟩ := (HBW.out.on HK.out.low) k y hy
      subst hB1
      cases hB1'
      have HT := Lib.hid (addU_snoc hx hy)
      have H3 : Hid (k + 1 ≤ maxLen) := Lib.hid (by unfold maxLen; have := HLW.out; omega)
      have H4 : Hid ((k + 1) * 8 ≤ 140737488355328) := Lib.hid (by have := HLW.out; omega)
      have H5 : Hid (w.heap.size ≤ (wr.alloc (.cells #[.int .u64 (IntKind.u64.wrap (x + y))] 38)).heap.size) := Lib.hid (by have := HK.out.low.size; simp; omega)
      have hlt' : (k : Int) < (f1.bu.length : Int) := by omega
      have hlt2 : (k : Int) < (f2.bu.length : Int) := by have := HLN.out; omega
      clear hx hy
      obtain ⟨b1x, b2x⟩ : b1 < w.heap.size ∧ b2 < w.heap.size := ⟨hb1x, hb2x⟩
      have HC1 := Lib.hid hcx
      have bx1 : b1 < wr.heap.size := Nat.lt_of_lt_of_le hb1x HK.out.low.size
      have bx2 : b2 < wr.heap.size := Nat.lt_of_lt_of_le hb2x HK.out.low.size
      have hbA : Below wr.heap.size wr (wr.alloc (.cells #[.int .u64 (IntKind.u64.wrap (x + y))] 38)) := (Below.refl _ _).alloc (Nat.le_refl _) _
      have y1 : wr.drew.cell? ⟨w.heap.size + 1, 4, none⟩ = some (.slice (some ⟨b1, o1, none⟩) f1.bu.length c) := q4
      have y2 : wr.drew.cell? ⟨w.heap.size + 1 + 1, 4, none⟩ = some (.slice (some ⟨b2, o2, none⟩) f2.bu.length c') := r4
      have y3 : wr.drew.cell? ⟨w5.heap.size, 4, none⟩ = some v := e4
      have y4 : wr.drew.cell? ⟨b1, o1 + k, none⟩ = some (.int .u64 x) := hcx
      have y5 : wr.drew.cell? ⟨b2, o2 + k, none⟩ = some (.int .u64 y) := hcy
      have z1 : (wr.alloc (.cells #[.int .u64 (IntKind.u64.wrap (x + y))] 38)).drew.cell? ⟨w.heap.size + 1, 4, none⟩ = some (.slice (some ⟨b1, o1, none⟩) f1.bu.length c) := (hbA.cell (p := ⟨w.heap.size + 1, 4, none⟩) ql).trans q4
      have z2 : (wr.alloc (.cells #[.int .u64 (IntKind.u64.wrap (x + y))] 38)).drew.cell? ⟨w.heap.size + 1 + 1, 4, none⟩ = some (.slice (some ⟨b2, o2, none⟩) f2.bu.length c') := (hbA.cell (p := ⟨w.heap.size + 1 + 1, 4, none⟩) rl).trans r4
      have z3 : (wr.alloc (.cells #[.int .u64 (IntKind.u64.wrap (x + y))] 38)).drew.cell? ⟨w5.heap.size, 4, none⟩ = some v := (hbA.cell (p := ⟨w5.heap.size, 4, none⟩) el).trans e4
      have z4 : (wr.alloc (.cells #[.int .u64 (IntKind.u64.wrap (x + y))] 38)).drew.cell? ⟨b1, o1 + k, none⟩ = some (.int .u64 x) := (hbA.cell (p := ⟨b1, o1 + k, none⟩) bx1).trans hcx
      have z5 : (wr.alloc (.cells #[.int .u64 (IntKind.u64.wrap (x + y))] 38)).drew.cell? ⟨b2, o2 + k, none⟩ = some (.int .u64 y) := (hbA.cell (p := ⟨b2, o2 + k, none⟩) bx2).trans hcy
      clear hbA
      have HC2 := Lib.hid hcy
      go_wp2_with fail
      refine wp_region_held_drew (S := (fun w' => w'.cell? ⟨w.heap.size + 1, 4, none⟩ = some (.slice (some ⟨b1, o1, none⟩) f1.bu.length c) ∧ w'.cell? ⟨w.heap.size + 1 + 1, 4, none⟩ = some (.slice (some ⟨b2, o2, none⟩) f2.bu.length c') ∧ w'.cell? ⟨b1, o1 + k, none⟩ = some (.int .u64 x) ∧ w'.cell? ⟨b2, o2 + k, none⟩ = some (.int .u64 y))) (by kernel_rfl) ?_ (fun hHeld0 => ?_)
      · try dsimp only
        exact ⟨y1, y2, y4, y5⟩
      refine wpAnyH_take (i := 0) (oi := { dst := some 71, op := Op.fieldAddr 44 (Operand.tmp 9) 4, type := 0, pos := "ref.go:217", after := #[], guard := none }) (v := ?_) rfl (by kernel_rfl) (by kernel_rfl) (by kernel_rfl) (fun _ _ _ h => h) (Or.inl ⟨by rfl, ?_⟩) (by assumption) ?_
      rotate_left
      · intro wq hSq
        try dsimp only at hSq
        go_simp
        try (with_reducible rfl)
      try simp only [Act.put, List.setIfInBounds_toArray, List.set_cons_zero, List.set_cons_succ]
      refine wpAnyH_take (i := 2) (oi := { dst := some 73, op := Op.fieldAddr 44 (Operand.tmp 4) 4, type := 0, pos := "ref.go:217", after := #[], guard := none }) (v := ?_) rfl (by kernel_rfl) (by kernel_rfl) (by kernel_rfl) (fun _ _ _ h => h) (Or.inl ⟨by rfl, ?_⟩) (by assumption) ?_
      rotate_left
      · intro wq hSq
        try dsimp only at hSq
        go_simp
        try (with_reducible rfl)
      try simp only [Act.put, List.setIfInBounds_toArray, List.set_cons_zero, List.set_cons_succ]
      refine wpAnyH_take (i := 3) (oi := { dst := some 74, op := Op.load 42 (Operand.tmp 73), type := 42, pos := "ref.go:217", after := #[{ on := 2, ground := Ground.data }], guard := none }) (v := ?_) rfl (by kernel_rfl) (by kernel_rfl) (by kernel_rfl) (fun _ _ _ h => h) (Or.inl ⟨by rfl, ?_⟩) (by assumption) ?_
      rotate_left
      · intro wq hSq
        try dsimp only at hSq
        go_simp
        try (with_reducible rfl)
      try simp only [Act.put, List.setIfInBounds_toArray, List.set_cons_zero, List.set_cons_succ]
      refine wpAnyH_take (i := 4) (oi := { dst := some 75, op := Op.move (Operand.tmp 10), type := 3, pos := "ref.go:217", after := #[], guard := none }) (v := ?_) rfl (by kernel_rfl) (by kernel_rfl) (by kernel_rfl) (fun _ _ _ h => h) (Or.inl ⟨by rfl, ?_⟩) (by assumption) ?_
      rotate_left
      · intro wq hSq
        try dsimp only at hSq
        go_simp
        try (with_reducible rfl)
      try simp only [Act.put, List.setIfInBounds_toArray, List.set_cons_zero, List.set_cons_succ]
      refine wpAnyH_take (i := 5) (oi := { dst := some 76, op := Op.indexAddr 42 (Operand.tmp 74) (Operand.tmp 75), type := 0, pos := "ref.go:217", after := #[{ on := 3, ground := Ground.data }, { on := 4, ground := Ground.data }], guard := none }) (v := ?_) rfl (by kernel_rfl) (by kernel_rfl) (by kernel_rfl) (fun _ _ _ h => h) (Or.inl ⟨by rfl, ?_⟩) (by assumption) ?_
      rotate_left
      · intro wq hSq
        try dsimp only at hSq
        go_simp
        try (with_reducible rfl)
      try simp only [Act.put, List.setIfInBounds_toArray, List.set_cons_zero, List.set_cons_succ]
      refine wpAnyH_take (i := 6) (oi := { dst := some 77, op := Op.load 38 (Operand.tmp 76), type := 38, pos := "ref.go:217", after := #[{ on := 5, ground := Ground.data }], guard := none }) (v := ?_) rfl (by kernel_rfl) (by kernel_rfl) (by kernel_rfl) (fun _ _ _ h => h) (Or.inl ⟨by rfl, ?_⟩) (by assumption) ?_
      rotate_left
      · intro wq hSq
        try dsimp only at hSq
        go_simp
        try (with_reducible rfl)
      try simp only [Act.put, List.setIfInBounds_toArray, List.set_cons_zero, List.set_cons_succ]
      refine wpAnyH_take (i := 7) (oi := { dst := some 78, op := Op.fieldAddr 44 (Operand.tmp 5) 4, type := 0, pos := "ref.go:217", after := #[], guard := none }) (v := ?_) rfl (by kernel_rfl) (by kernel_rfl) (by kernel_rfl) (fun _ _ _ h => h) (Or.inl ⟨by rfl, ?_⟩) (by assumption) ?_
      rotate_left
      · intro wq hSq
        try dsimp only at hSq
        go_simp
        try (with_reducible rfl)
      try simp only [Act.put, List.setIfInBounds_toArray, List.set_cons_zero, List.set_cons_succ]
      refine wpAnyH_take (i := 8) (oi := { dst := some 79, op := Op.load 42 (Operand.tmp 78), type := 42, pos := "ref.go:217", after := #[{ on := 7, ground := Ground.data }], guard := none }) (v := ?_) rfl (by kernel_rfl) (by kernel_rfl) (by kernel_rfl) (fun _ _ _ h => h) (Or.inl ⟨by rfl, ?_⟩) (by assumption) ?_
      rotate_left
      · intro wq hSq
        try dsimp only at hSq
        go_simp
        try (with_reducible rfl)
      try simp only [Act.put, List.setIfInBounds_toArray, List.set_cons_zero, List.set_cons_succ]
      refine wpAnyH_take (i := 9) (oi := { dst := some 80, op := Op.move (Operand.tmp 10), type := 3, pos := "ref.go:217", after := #[], guard := none }) (v := ?_) rfl (by kernel_rfl) (by kernel_rfl) (by kernel_rfl) (fun _ _ _ h => h) (Or.inl ⟨by rfl, ?_⟩) (by assumption) ?_
      rotate_left
      · intro wq hSq
        try dsimp only at hSq
        go_simp
        try (with_reducible rfl)
      try simp only [Act.put, List.setIfInBounds_toArray, List.set_cons_zero, List.set_cons_succ]
      refine wpAnyH_take (i := 10) (oi := { dst := some 81, op := Op.indexAddr 42 (Operand.tmp 79) (Operand.tmp 80), type := 0, pos := "ref.go:217", after := #[{ on := 8, ground := Ground.data }, { on := 9, ground := Ground.data }], guard := none }) (v := ?_) rfl (by kernel_rfl) (by kernel_rfl) (by kernel_rfl) (fun _ _ _ h => h) (Or.inl ⟨by rfl, ?_⟩) (by assumption) ?_
      rotate_left
      · intro wq hSq
        try dsimp only at hSq
        go_simp
        try (with_reducible rfl)
      try simp only [Act.put, List.setIfInBounds_toArray, List.set_cons_zero, List.set_cons_succ]
      refine wpAnyH_take (i := 11) (oi := { dst := some 82, op := Op.load 38 (Operand.tmp 81), type := 38, pos := "ref.go:217", after := #[{ on := 10, ground := Ground.data }], guard := none }) (v := ?_) rfl (by kernel_rfl) (by kernel_rfl) (by kernel_rfl) (fun _ _ _ h => h) (Or.inl ⟨by rfl, ?_⟩) (by assumption) ?_
      rotate_left
      · intro wq hSq
        try dsimp only at hSq
        go_simp
        try (with_reducible rfl)
      try simp only [Act.put, List.setIfInBounds_toArray, List.set_cons_zero, List.set_cons_succ]
      refine wpAnyH_take (i := 12) (oi := { dst := some 83, op := Op.binOp BinOp.add 38 (Operand.tmp 77) (Operand.tmp 82) 38, type := 38, pos := "ref.go:217", after := #[{ on := 6, ground := Ground.data }, { on := 11, ground := Ground.data }], guard := none }) (v := ?_) rfl (by kernel_rfl) (by kernel_rfl) (by kernel_rfl) (fun _ _ _ h => h) (Or.inl ⟨by rfl, ?_⟩) (by assumption) ?_
      rotate_left
      · intro wq hSq
        try dsimp only at hSq
        go_simp
        try (with_reducible rfl)
      try simp only [Act.put, List.setIfInBounds_toArray, List.set_cons_zero, List.set_cons_succ]
      refine wpAnyH_ready (rs := [1, 13]) (by kernel_rfl) (by simp) ?_
      refine AllReadyH.cons (o := { dst := some 72, op := Op.load 42 (Operand.tmp 71), type := 42, pos := "ref.go:217", after := #[{ on := 0, ground := Ground.data }], guard := none }) rfl (fun K hK => ?_) (AllReadyH.cons (o := { dst := some 84, op := Op.buildSlice 42 1 #[(0, Operand.tmp 83)], type := 42, pos := "ref.go:217", after := #[{ on := 12, ground := Ground.data }], guard := none }) rfl (fun K hK => ?_) AllReadyH.nil)
      · go_simp
        refine hK.out _ _ (by exact ⟨y1, y2, y4, y5⟩) (fun hHeldA => ?_)
        clear hK K hHeld0
        try simp only [Act.put, List.setIfInBounds_toArray, List.set_cons_zero, List.set_cons_succ]
        refine wpAnyH_ready (rs := [13]) (by kernel_rfl) (by simp) ?_
        refine AllReadyH.cons (o := { dst := some 84, op := Op.buildSlice 42 1 #[(0, Operand.tmp 83)], type := 42, pos := "ref.go:217", after := #[{ on := 12, ground := Ground.data }], guard := none }) rfl (fun K hK => ?_) AllReadyH.nil
        go_simp
        refine hK.out _ _ (by exact ⟨z1, z2, z4, z5⟩) (fun hHeldB => ?_)
        clear hK K hHeldA
        try simp only [Act.put, List.setIfInBounds_toArray, List.set_cons_zero, List.set_cons_succ]
        refine wpAnyH_ready (rs := [14]) (by kernel_rfl) (by simp) ?_
        refine AllReadyH.cons (o := { dst := some 85, op := Op.call { callee := Callee.builtin Builtin.append, args := #[Operand.tmp 72, Operand.tmp 84], argTypes := #[42, 42] }, type := 42, pos := "ref.go:217", after := #[{ on := 1, ground := Ground.data }, { on := 13, ground := Ground.data }], guard := none }) rfl (fun K hK => ?_) AllReadyH.nil
        refine step_append_lies _ (by rfl) _ _ _ (by rfl) w.heap.size 38 i0 _ 1 8 Try.underlying42 hi hz0 hz1 hz2 rfl (by omega) _ k (u64s ((addU f1.bu f2.bu).take k)) (by rfl) (own_part HK.out.own (Part.of_below (by first | exact ((Below.refl _ _).alloc (Nat.le_refl _) _).drew | exact ((Below.refl _ _).drew).alloc (Nat.le_refl _) _ | exact (Below.refl _ _).alloc (Nat.le_refl _) _) (Nat.le_refl _) []) (by simp)) ⟨wr.heap.size, 0, none⟩ 1 1 [.int .u64 (IntKind.u64.wrap (x + y))] (by rfl) (by rfl) (World.news_of_block (cs := #[.int .u64 (IntKind.u64.wrap (x + y))]) (t := 38) (fr := (0, 0)) (heap_alloc_new wr _)) (by simp [Value.oneCell']) (by omega) H3.out H4.out (by have := H5.out; simp; omega) (wr.heap.size + 1) (by simp) ?_; intro gg gcap w6 hown6 hgr6 hat6 hlt6; have HK1 := Lib.hid (HK.out.grow (by first | exact ((Below.refl _ _).alloc (Nat.le_refl _) _).drew | exact ((Below.refl _ _).drew).alloc (Nat.le_refl _) _ | exact (Below.refl _ _).alloc (Nat.le_refl _) _) HT.out hown6 hgr6); have v1 : w6.cell? ⟨w.heap.size + 1, 4, none⟩ = some (.slice (some ⟨b1, o1, none⟩) f1.bu.length c) := HK1.out.1.1.cell 4; have v2 : w6.cell? ⟨w.heap.size + 1 + 1, 4, none⟩ = some (.slice (some ⟨b2, o2, none⟩) f2.bu.length c') := HK1.out.1.2.1.cell 4; have v3 : w6.cell? ⟨w5.heap.size, 4, none⟩ = some v := HK1.out.1.2.2.1.cell 4; have v4 : w6.cell? ⟨b1, o1 + k, none⟩ = some (.int .u64 x) := HK1.out.1.2.2.2 ⟨b1, o1 + k, none⟩ _ b1x HC1.out; have v5 : w6.cell? ⟨b2, o2 + k, none⟩ = some (.int .u64 y) := HK1.out.1.2.2.2 ⟨b2, o2 + k, none⟩ _ b2x HC2.out; have gl := HK1.out.1.2.2.1.lt; have gf := HK1.out.1.2.2.1.free; have nO1 : w5.heap.size ≠ w.heap.size + 1 := (by have := HK.out.lo; omega); have nO2 : w5.heap.size ≠ w.heap.size + 1 + 1 := (by have := HK.out.lo; omega); have nO3 : w5.heap.size ≠ b1 := (by have := HK.out.lo; omega); have nO4 : w5.heap.size ≠ b2 := (by have := HK.out.lo; omega); have s1 := (World.cell?_setCell_far w6 ⟨w5.heap.size, 4, none⟩ ⟨w.heap.size + 1, 4, none⟩ (.slice (some ⟨gg, 0, none⟩) (k + 1) gcap) nO1).trans v1; have s2 := (World.cell?_setCell_far w6 ⟨w5.heap.size, 4, none⟩ ⟨w.heap.size + 1 + 1, 4, none⟩ (.slice (some ⟨gg, 0, none⟩) (k + 1) gcap) nO2).trans v2; have s4 := (World.cell?_setCell_far w6 ⟨w5.heap.size, 4, none⟩ ⟨b1, o1 + k, none⟩ (.slice (some ⟨gg, 0, none⟩) (k + 1) gcap) nO3).trans v4; have s5 := (World.cell?_setCell_far w6 ⟨w5.heap.size, 4, none⟩ ⟨b2, o2 + k, none⟩ (.slice (some ⟨gg, 0, none⟩) (k + 1) gcap) nO4).trans v5; clear hown6 hgr6 hat6
        refine hK.out _ _ (by exact ⟨v1, v2, v4, v5⟩) (fun hHeldF => ?_)
        clear hK K hHeldB
        try simp only [Act.put, List.setIfInBounds_toArray, List.set_cons_zero, List.set_cons_succ]
        refine wpAnyH_take (i := 15) (oi := { dst := some 86, op := Op.fieldAddr 44 (Operand.tmp 9) 4, type := 0, pos := "ref.go:217", after := #[{ on := 0, ground := Ground.phase }, { on := 1, ground := Ground.phase }, { on := 2, ground := Ground.phase }, { on := 3, ground := Ground.phase }, { on := 4, ground := Ground.phase }, { on := 5, ground := Ground.phase }, { on := 6, ground := Ground.phase }, { on := 7, ground := Ground.phase }, { on := 8, ground := Ground.phase }, { on := 9, ground := Ground.phase }, { on := 10, ground := Ground.phase }, { on := 11, ground := Ground.phase }, { on := 12, ground := Ground.phase }, { on := 13, ground := Ground.phase }, { on := 14, ground := Ground.phase }], guard := none }) (v := ?_) rfl (by kernel_rfl) (by kernel_rfl) (by kernel_rfl) (fun _ _ _ h => h) (Or.inl ⟨by rfl, ?_⟩) (by assumption) ?_
        rotate_left
        · intro wq hSq
          try dsimp only at hSq
          go_simp
          try (with_reducible rfl)
        try simp only [Act.put, List.setIfInBounds_toArray, List.set_cons_zero, List.set_cons_succ]
        refine wpAnyH_ready (rs := [16]) (by kernel_rfl) (by simp) ?_
        refine AllReadyH.cons (o := { dst := none, op := Op.store 42 (Operand.tmp 86) (Operand.tmp 85), type := 0, pos := "ref.go:217", after := #[{ on := 15, ground := Ground.data }, { on := 14, ground := Ground.data }, { on := 14, ground := Ground.chain }, { on := 0, ground := Ground.phase }, { on := 1, ground := Ground.phase }, { on := 2, ground := Ground.phase }, { on := 3, ground := Ground.phase }, { on := 4, ground := Ground.phase }, { on := 5, ground := Ground.phase }, { on := 6, ground := Ground.phase }, { on := 7, ground := Ground.phase }, { on := 8, ground := Ground.phase }, { on := 9, ground := Ground.phase }, { on := 10, ground := Ground.phase }, { on := 11, ground := Ground.phase }, { on := 12, ground := Ground.phase }, { on := 13, ground := Ground.phase }, { on := 14, ground := Ground.phase }], guard := none }) rfl (fun K hK => ?_) AllReadyH.nil
        go_simp
        refine hK.out _ _ (by exact ⟨s1, s2, s4, s5⟩) (fun hHeldG => ?_)
        clear hK K hHeldF
        try simp only [Act.put, List.setIfInBounds_toArray, List.set_cons_zero, List.set_cons_succ]
        refine wpAnyH_done (by kernel_rfl) ?_ _
        go_wp2_with fail
        go_roundw
        case rel => exact ⟨k + 1, _, by omega, by go_num, HK1.out.2⟩
        case measure => simp [intOf]; omega
      · go_simp
        refine hK.out _ _ (by exact ⟨z1, z2, z4, z5⟩) (fun hHeldA => ?_)
        clear hK K hHeld0
        try simp only [Act.put, List.setIfInBounds_toArray, List.set_cons_zero, List.set_cons_succ]
        refine wpAnyH_ready (rs := [1]) (by kernel_rfl) (by simp) ?_
        refine AllReadyH.cons (o := { dst := some 72, op := Op.load 42 (Operand.tmp 71), type := 42, pos := "ref.go:217", after := #[{ on := 0, ground := Ground.data }], guard := none }) rfl (fun K hK => ?_) AllReadyH.nil
        go_simp
        refine hK.out _ _ (by exact ⟨z1, z2, z4, z5⟩) (fun hHeldB => ?_)
        clear hK K hHeldA
        try simp only [Act.put, List.setIfInBounds_toArray, List.set_cons_zero, List.set_cons_succ]
        refine wpAnyH_ready (rs := [14]) (by kernel_rfl) (by simp) ?_
        refine AllReadyH.cons (o := { dst := some 85, op := Op.call { callee := Callee.builtin Builtin.append, args := #[Operand.tmp 72, Operand.tmp 84], argTypes := #[42, 42] }, type := 42, pos := "ref.go:217", after := #[{ on := 1, ground := Ground.data }, { on := 13, ground := Ground.data }], guard := none }) rfl (fun K hK => ?_) AllReadyH.nil
        refine step_append_lies _ (by rfl) _ _ _ (by rfl) w.heap.size 38 i0 _ 1 8 Try.underlying42 hi hz0 hz1 hz2 rfl (by omega) _ k (u64s ((addU f1.bu f2.bu).take k)) (by rfl) (own_part HK.out.own (Part.of_below (by first | exact ((Below.refl _ _).alloc (Nat.le_refl _) _).drew | exact ((Below.refl _ _).drew).alloc (Nat.le_refl _) _ | exact (Below.refl _ _).alloc (Nat.le_refl _) _) (Nat.le_refl _) []) (by simp)) ⟨wr.heap.size, 0, none⟩ 1 1 [.int .u64 (IntKind.u64.wrap (x + y))] (by rfl) (by rfl) (World.news_of_block (cs := #[.int .u64 (IntKind.u64.wrap (x + y))]) (t := 38) (fr := (0, 0)) (heap_alloc_new wr _)) (by simp [Value.oneCell']) (by omega) H3.out H4.out (by have := H5.out; simp; omega) (wr.heap.size + 1) (by simp) ?_; intro gg gcap w6 hown6 hgr6 hat6 hlt6; have HK1 := Lib.hid (HK.out.grow (by first | exact ((Below.refl _ _).alloc (Nat.le_refl _) _).drew | exact ((Below.refl _ _).drew).alloc (Nat.le_refl _) _ | exact (Below.refl _ _).alloc (Nat.le_refl _) _) HT.out hown6 hgr6); have v1 : w6.cell? ⟨w.heap.size + 1, 4, none⟩ = some (.slice (some ⟨b1, o1, none⟩) f1.bu.length c) := HK1.out.1.1.cell 4; have v2 : w6.cell? ⟨w.heap.size + 1 + 1, 4, none⟩ = some (.slice (some ⟨b2, o2, none⟩) f2.bu.length c') := HK1.out.1.2.1.cell 4; have v3 : w6.cell? ⟨w5.heap.size, 4, none⟩ = some v := HK1.out.1.2.2.1.cell 4; have v4 : w6.cell? ⟨b1, o1 + k, none⟩ = some (.int .u64 x) := HK1.out.1.2.2.2 ⟨b1, o1 + k, none⟩ _ b1x HC1.out; have v5 : w6.cell? ⟨b2, o2 + k, none⟩ = some (.int .u64 y) := HK1.out.1.2.2.2 ⟨b2, o2 + k, none⟩ _ b2x HC2.out; have gl := HK1.out.1.2.2.1.lt; have gf := HK1.out.1.2.2.1.free; have nO1 : w5.heap.size ≠ w.heap.size + 1 := (by have := HK.out.lo; omega); have nO2 : w5.heap.size ≠ w.heap.size + 1 + 1 := (by have := HK.out.lo; omega); have nO3 : w5.heap.size ≠ b1 := (by have := HK.out.lo; omega); have nO4 : w5.heap.size ≠ b2 := (by have := HK.out.lo; omega); have s1 := (World.cell?_setCell_far w6 ⟨w5.heap.size, 4, none⟩ ⟨w.heap.size + 1, 4, none⟩ (.slice (some ⟨gg, 0, none⟩) (k + 1) gcap) nO1).trans v1; have s2 := (World.cell?_setCell_far w6 ⟨w5.heap.size, 4, none⟩ ⟨w.heap.size + 1 + 1, 4, none⟩ (.slice (some ⟨gg, 0, none⟩) (k + 1) gcap) nO2).trans v2; have s4 := (World.cell?_setCell_far w6 ⟨w5.heap.size, 4, none⟩ ⟨b1, o1 + k, none⟩ (.slice (some ⟨gg, 0, none⟩) (k + 1) gcap) nO3).trans v4; have s5 := (World.cell?_setCell_far w6 ⟨w5.heap.size, 4, none⟩ ⟨b2, o2 + k, none⟩ (.slice (some ⟨gg, 0, none⟩) (k + 1) gcap) nO4).trans v5; clear hown6 hgr6 hat6
        refine hK.out _ _ (by exact ⟨v1, v2, v4, v5⟩) (fun hHeldF => ?_)
        clear hK K hHeldB
        try simp only [Act.put, List.setIfInBounds_toArray, List.set_cons_zero, List.set_cons_succ]
        refine wpAnyH_take (i := 15) (oi := { dst := some 86, op := Op.fieldAddr 44 (Operand.tmp 9) 4, type := 0, pos := "ref.go:217", after := #[{ on := 0, ground := Ground.phase }, { on := 1, ground := Ground.phase }, { on := 2, ground := Ground.phase }, { on := 3, ground := Ground.phase }, { on := 4, ground := Ground.phase }, { on := 5, ground := Ground.phase }, { on := 6, ground := Ground.phase }, { on := 7, ground := Ground.phase }, { on := 8, ground := Ground.phase }, { on := 9, ground := Ground.phase }, { on := 10, ground := Ground.phase }, { on := 11, ground := Ground.phase }, { on := 12, ground := Ground.phase }, { on := 13, ground := Ground.phase }, { on := 14, ground := Ground.phase }], guard := none }) (v := ?_) rfl (by kernel_rfl) (by kernel_rfl) (by kernel_rfl) (fun _ _ _ h => h) (Or.inl ⟨by rfl, ?_⟩) (by assumption) ?_
        rotate_left
        · intro wq hSq
          try dsimp only at hSq
          go_simp
          try (with_reducible rfl)
        try simp only [Act.put, List.setIfInBounds_toArray, List.set_cons_zero, List.set_cons_succ]
        refine wpAnyH_ready (rs := [16]) (by kernel_rfl) (by simp) ?_
        refine AllReadyH.cons (o := { dst := none, op := Op.store 42 (Operand.tmp 86) (Operand.tmp 85), type := 0, pos := "ref.go:217", after := #[{ on := 15, ground := Ground.data }, { on := 14, ground := Ground.data }, { on := 14, ground := Ground.chain }, { on := 0, ground := Ground.phase }, { on := 1, ground := Ground.phase }, { on := 2, ground := Ground.phase }, { on := 3, ground := Ground.phase }, { on := 4, ground := Ground.phase }, { on := 5, ground := Ground.phase }, { on := 6, ground := Ground.phase }, { on := 7, ground := Ground.phase }, { on := 8, ground := Ground.phase }, { on := 9, ground := Ground.phase }, { on := 10, ground := Ground.phase }, { on := 11, ground := Ground.phase }, { on := 12, ground := Ground.phase }, { on := 13, ground := Ground.phase }, { on := 14, ground := Ground.phase }], guard := none }) rfl (fun K hK => ?_) AllReadyH.nil
        go_simp
        refine hK.out _ _ (by exact ⟨s1, s2, s4, s5⟩) (fun hHeldG => ?_)
        clear hK K hHeldF
        try simp only [Act.put, List.setIfInBounds_toArray, List.set_cons_zero, List.set_cons_succ]
        refine wpAnyH_done (by kernel_rfl) ?_ _
        go_wp2_with fail
        go_roundw
        case rel => exact ⟨k + 1, _, by omega, by go_num, HK1.out.2⟩
        case measure => simp [intOf]; omega
    · obtain rfl : k = f1.bu.length := by omega
      obtain ⟨t0, t1, t2, t3, t4⟩ := HK.out.res.five
      have tl := HK.out.res.lt
      have tf := HK.out.res.free
      obtain ⟨a5, c5, rfl⟩ := own_form HK.out.own
      go_wp2
      refine bodyPost_ret (v := .tuple #[.agg #[.int .u64 (IntKind.u64.wrap (f1.c + f2.c)), .int .u64 (IntKind.u64.wrap (f1.su + f2.su)), .int .i64 f2.le, .int .i64 f1.gr, .slice a5 f1.bu.length c5], .int .i64 0]) (by simp [results, Try.results26, go_sem, t0, t1, t2, t3, t4]) rfl ?_
      suffices hE : Part [w.heap.size + 1 + 1 + 1] wr _ from by
        refine ⟨a5, c5, by rw [HM.out, HG.out], ?_, HK.out.low.trans (hE.below HK.out.low.size (by simp; omega))⟩
        have ho := HK.out.own
        rw [show (addU f1.bu f2.bu).take f1.bu.length = addU f1.bu f2.bu from List.take_of_length_le (by simp [addU]; omega)] at ho
        exact own_part ho hE (fun q hq => by simpa using own_off ho HK.out.res (by decide) q hq)
      repeat (first | (with_reducible exact Part.refl _ _) | refine Part.set ?_ (by simp) _)
theorem refMerge_y2a (hA : Ext .u64 w A f1.bu) (hB : Ext .u64 w B f2.bu) (hl1 : f1.bu.length ≤ 17592186044416) (h01 : ∀ (j : Nat) (x : Int), f1.bu[j]? = some x → 0 ≤ x) (h02 : ∀ (j : Nat) (x : Int), f2.bu[j]? = some x → 0 ≤ x) (hw1 : checkS l h d f1 = 0) (hw2 : checkS l h d f2 = 0) (hb : 0 ≤ f1.le) (hc : 0 ≤ f2.le) (hd : f1.le ≤ f2.le) (he : f1.gr < f2.gr) :
    Calls Try.prog 26 #[.agg #[.int .i64 l, .int .i64 h, .int .i64 d], .agg #[.int .u64 f1.c, .int .u64 f1.su, .int .i64 f1.le, .int .i64 f1.gr, .slice A f1.bu.length c], .agg #[.int .u64 f2.c, .int .u64 f2.su, .int .i64 f2.le, .int .i64 f2.gr, .slice B f2.bu.length c']] w (RefMerged w f1 f2) := by
  obtain ⟨i0, hi, hz0, hz1, hz2⟩ := info_parts info29
  have HAW := Lib.hid hA
  have HBW := Lib.hid hB
  have HLW := Lib.hid hl1
  have hlen : f1.bu.length = f2.bu.length := by rw [(check_len hw1).2, (check_len hw2).2]
  have hl2 : f2.bu.length ≤ 17592186044416 := by omega
  have hl1 : f1.bu.length ≤ 17592186044416 := by omega
  have HLN := Lib.hid hlen
  have HM : Hid (lem f1.le f2.le = f1.le) := Lib.hid (by unfold lem; rw [if_neg (by omega)])
  have HG : Hid (max f1.gr f2.gr = f2.gr) := Lib.hid (by omega)
  have hb0 : Below w.heap.size w ((((w.alloc (.cells #[.int .i64 l, .int .i64 h, .int .i64 d] 23)).alloc (.cells #[.int .u64 f1.c, .int .u64 f1.su, .int .i64 f1.le, .int .i64 f1.gr, .slice A f1.bu.length c] 44)).alloc (.cells #[.int .u64 f2.c, .int .u64 f2.su, .int .i64 f2.le, .int .i64 f2.gr, .slice B f2.bu.length c'] 44)).alloc (.cells #[.int .u64 0, .int .u64 0, .int .i64 0, .int .i64 0, .slice none 0 0] 44)) := by repeat (first | (with_reducible exact Below.refl _ _) | refine Below.alloc ?_ (by simp; try omega) _)
  have HB0 := Lib.hid hb0
  have HA := Lib.hid (hA.on hb0)
  have HB := Lib.hid (hB.on hb0)
  have H01 := Lib.hid h01
  have H02 := Lib.hid h02
  have HR0 : Hid (Row ((((w.alloc (.cells #[.int .i64 l, .int .i64 h, .int .i64 d] 23)).alloc (.cells #[.int .u64 f1.c, .int .u64 f1.su, .int .i64 f1.le, .int .i64 f1.gr, .slice A f1.bu.length c] 44)).alloc (.cells #[.int .u64 f2.c, .int .u64 f2.su, .int .i64 f2.le, .int .i64 f2.gr, .slice B f2.bu.length c'] 44)).alloc (.cells #[.int .u64 0, .int .u64 0, .int .i64 0, .int .i64 0, .slice none 0 0] 44)) w.heap.size 23 [.int .i64 l, .int .i64 h, .int .i64 d]) := Lib.hid ((((Row.new w _ _).alloc _).alloc _).alloc _)
  have HR1 : Hid (Row ((((w.alloc (.cells #[.int .i64 l, .int .i64 h, .int .i64 d] 23)).alloc (.cells #[.int .u64 f1.c, .int .u64 f1.su, .int .i64 f1.le, .int .i64 f1.gr, .slice A f1.bu.length c] 44)).alloc (.cells #[.int .u64 f2.c, .int .u64 f2.su, .int .i64 f2.le, .int .i64 f2.gr, .slice B f2.bu.length c'] 44)).alloc (.cells #[.int .u64 0, .int .u64 0, .int .i64 0, .int .i64 0, .slice none 0 0] 44)) (w.heap.size + 1) 44 [.int .u64 f1.c, .int .u64 f1.su, .int .i64 f1.le, .int .i64 f1.gr, .slice A f1.bu.length c]) := Lib.hid (((Row.at_ (w := w.alloc _) (by simp)).alloc _).alloc _)
  have HR2 : Hid (Row ((((w.alloc (.cells #[.int .i64 l, .int .i64 h, .int .i64 d] 23)).alloc (.cells #[.int .u64 f1.c, .int .u64 f1.su, .int .i64 f1.le, .int .i64 f1.gr, .slice A f1.bu.length c] 44)).alloc (.cells #[.int .u64 f2.c, .int .u64 f2.su, .int .i64 f2.le, .int .i64 f2.gr, .slice B f2.bu.length c'] 44)).alloc (.cells #[.int .u64 0, .int .u64 0, .int .i64 0, .int .i64 0, .slice none 0 0] 44)) (w.heap.size + 1 + 1) 44 [.int .u64 f2.c, .int .u64 f2.su, .int .i64 f2.le, .int .i64 f2.gr, .slice B f2.bu.length c']) := Lib.hid ((Row.at_ (w := (w.alloc _).alloc _) (by simp)).alloc _)
  have HR3 : Hid (Row ((((w.alloc (.cells #[.int .i64 l, .int .i64 h, .int .i64 d] 23)).alloc (.cells #[.int .u64 f1.c, .int .u64 f1.su, .int .i64 f1.le, .int .i64 f1.gr, .slice A f1.bu.length c] 44)).alloc (.cells #[.int .u64 f2.c, .int .u64 f2.su, .int .i64 f2.le, .int .i64 f2.gr, .slice B f2.bu.length c'] 44)).alloc (.cells #[.int .u64 0, .int .u64 0, .int .i64 0, .int .i64 0, .slice none 0 0] 44)) (w.heap.size + 1 + 1 + 1) 44 [.int .u64 0, .int .u64 0, .int .i64 0, .int .i64 0, .slice none 0 0]) := Lib.hid (Row.at_ (w := ((w.alloc _).alloc _).alloc _) (by simp))
  clear hA hB hb0 h01 h02
  have K1 : Hid (checkP l h d f1.bu f1.c f1.su f1.le f1.gr = 0) := Lib.hid hw1
  have K2 : Hid (checkP l h d f2.bu f2.c f2.su f2.le f2.gr = 0) := Lib.hid hw2
  clear hw1 hw2 hlen
  go_enter Try.func26, Try.ntmps26
  go_wp2_with (first | (go_at_call 28; (with_reducible refine (refCheck_any (xs := f1.bu) HA.out hl1 H01.out).mono ?_); rw [K1.out]; rintro e w4 ⟨rfl, hb⟩; have PA1 := Lib.hid (HA.out.on hb); have PB1 := Lib.hid (HB.out.on hb); have LB1 := Lib.hid (HB0.out.trans (hb.mono HB0.out.size)); have Q01 := Lib.hid (HR0.out.below hb HR0.out.lt); have Q11 := Lib.hid (HR1.out.below hb HR1.out.lt); have Q21 := Lib.hid (HR2.out.below hb HR2.out.lt); have Q31 := Lib.hid (HR3.out.below hb HR3.out.lt); clear hb; have p0 := Q01.out.cell 0; have p1 := Q01.out.cell 1; have p2 := Q01.out.cell 2; obtain ⟨q0, q1, q2, q3, q4⟩ := Q11.out.five; obtain ⟨r0, r1, r2, r3, r4⟩ := Q21.out.five; obtain ⟨t0, t1, t2, t3, t4⟩ := Q31.out.five; have ql := Q11.out.lt; have rl := Q21.out.lt; have tl := Q31.out.lt; have tf := Q31.out.free) | (go_at_call 28; (with_reducible refine (refCheck_any (xs := f2.bu) PB1.out hl2 H02.out).mono ?_); rw [K2.out]; rintro e w5 ⟨rfl, hb⟩; have PA2 := Lib.hid (PA1.out.on hb); have PB2 := Lib.hid (PB1.out.on hb); have LB2 := Lib.hid (LB1.out.trans (hb.mono LB1.out.size)); have Q02 := Lib.hid (Q01.out.below hb Q01.out.lt); have Q12 := Lib.hid (Q11.out.below hb Q11.out.lt); have Q22 := Lib.hid (Q21.out.below hb Q21.out.lt); have Q32 := Lib.hid (Q31.out.below hb Q31.out.lt); clear hb; have p0 := Q02.out.cell 0; have p1 := Q02.out.cell 1; have p2 := Q02.out.cell 2; obtain ⟨q0, q1, q2, q3, q4⟩ := Q12.out.five; obtain ⟨r0, r1, r2, r3, r4⟩ := Q22.out.five; obtain ⟨t0, t1, t2, t3, t4⟩ := Q32.out.five; have ql := Q12.out.lt; have rl := Q22.out.lt; have tl := Q32.out.lt; have tf := Q32.out.free))
  go_loopw [10] (fun i wr => ∃ (k : Nat) (v : Value), k ≤ f1.bu.length ∧ i = .int .i64 k ∧ RefMid w f1 f2 A B c c' f1.le f2.gr w5.heap.size v k wr) (fun i _ => f1.bu.length - (intOf i).toNat)
  case atStart => exact ⟨0, _, Nat.zero_le _, rfl, mids_start Q12.out Q22.out Q32.out LB2.out⟩
  case round =>
    obtain ⟨k, v, hk, rfl, hK⟩ := hrel
    have HK := Lib.hid hK
    obtain ⟨q0, q1, q2, q3, q4⟩ := hK.x.five
    obtain ⟨r0, r1, r2, r3, r4⟩ := hK.y.five
    obtain ⟨e0, e1, e2, e3, e4⟩ := hK.box.five
    have ql := hK.x.lt
    have rl := hK.y.lt
    have el := hK.box.lt
    have ef := hK.box.free
    clear hK
    by_cases hlt : k < f1.bu.length
    · obtain ⟨x, hx⟩ : ∃ x, f1.bu[k]? = some x := ⟨f1.bu[k], List.getElem?_eq_getElem hlt⟩
      obtain ⟨y, hy⟩ : ∃ y, f2.bu[k]? = some y := ⟨f2.bu[k]'(by have := HLN.out; omega), List.getElem?_eq_getElem (by have := HLN.out; omega)⟩
      obtain ⟨b1, o1, hA1, hb1x, _⟩ := HAW.out k x hx
      obtain ⟨b1', o1', hA1', _, hcx⟩ := (HAW.out.on HK.out.low) k x hx
      subst hA1
      cases hA1'
      obtain ⟨b2, o2, hB1, hb2x, _⟩ := HBW.out k y hy
      obtain ⟨b2', o2', hB1', _, hcy⟩ := (HBW.out.on HK.out.low) k y hy
      subst hB1
      cases hB1'
      have HT := Lib.hid (addU_snoc hx hy)
      have H3 : Hid (k + 1 ≤ maxLen) := Lib.hid (by unfold maxLen; have := HLW.out; omega)
      have H4 : Hid ((k + 1) * 8 ≤ 140737488355328) := Lib.hid (by have := HLW.out; omega)
      have H5 : Hid (w.heap.size ≤ (wr.alloc (.cells #[.int .u64 (IntKind.u64.wrap (x + y))] 38)).heap.size) := Lib.hid (by have := HK.out.low.size; simp; omega)
      have hlt' : (k : Int) < (f1.bu.length : Int) := by omega
      have hlt2 : (k : Int) < (f2.bu.length : Int) := by have := HLN.out; omega
      clear hx hy
      obtain ⟨b1x, b2x⟩ : b1 < w.heap.size ∧ b2 < w.heap.size := ⟨hb1x, hb2x⟩
      have HC1 := Lib.hid hcx
      have bx1 : b1 < wr.heap.size := Nat.lt_of_lt_of_le hb1x HK.out.low.size
      have bx2 : b2 < wr.heap.size := Nat.lt_of_lt_of_le hb2x HK.out.low.size
      have hbA : Below wr.heap.size wr (wr.alloc (.cells #[.int .u64 (IntKind.u64.wrap (x + y))] 38)) := (Below.refl _ _).alloc (Nat.le_refl _) _
      have y1 : wr.drew.cell? ⟨w.heap.size + 1, 4, none⟩ = some (.slice (some ⟨b1, o1, none⟩) f1.bu.length c) := q4
      have y2 : wr.drew.cell? ⟨w.heap.size + 1 + 1, 4, none⟩ = some (.slice (some ⟨b2, o2, none⟩) f2.bu.length c') := r4
      have y3 : wr.drew.cell? ⟨w5.heap.size, 4, none⟩ = some v := e4
      have y4 : wr.drew.cell? ⟨b1, o1 + k, none⟩ = some (.int .u64 x) := hcx
      have y5 : wr.drew.cell? ⟨b2, o2 + k, none⟩ = some (.int .u64 y) := hcy
      have z1 : (wr.alloc (.cells #[.int .u64 (IntKind.u64.wrap (x + y))] 38)).drew.cell? ⟨w.heap.size + 1, 4, none⟩ = some (.slice (some ⟨b1, o1, none⟩) f1.bu.length c) := (hbA.cell (p := ⟨w.heap.size + 1, 4, none⟩) ql).trans q4
      have z2 : (wr.alloc (.cells #[.int .u64 (IntKind.u64.wrap (x + y))] 38)).drew.cell? ⟨w.heap.size + 1 + 1, 4, none⟩ = some (.slice (some ⟨b2, o2, none⟩) f2.bu.length c') := (hbA.cell (p := ⟨w.heap.size + 1 + 1, 4, none⟩) rl).trans r4
      have z3 : (wr.alloc (.cells #[.int .u64 (IntKind.u64.wrap (x + y))] 38)).drew.cell? ⟨w5.heap.size, 4, none⟩ = some v := (hbA.cell (p := ⟨w5.heap.size, 4, none⟩) el).trans e4
      have z4 : (wr.alloc (.cells #[.int .u64 (IntKind.u64.wrap (x + y))] 38)).drew.cell? ⟨b1, o1 + k, none⟩ = some (.int .u64 x) := (hbA.cell (p := ⟨b1, o1 + k, none⟩) bx1).trans hcx
      have z5 : (wr.alloc (.cells #[.int .u64 (IntKind.u64.wrap (x + y))] 38)).drew.cell? ⟨b2, o2 + k, none⟩ = some (.int .u64 y) := (hbA.cell (p := ⟨b2, o2 + k, none⟩) bx2).trans hcy
      clear hbA
      have HC2 := Lib.hid hcy
      go_wp2_with fail
      refine wp_region_held_drew (S := (fun w' => w'.cell? ⟨w.heap.size + 1, 4, none⟩ = some (.slice (some ⟨b1, o1, none⟩) f1.bu.length c) ∧ w'.cell? ⟨w.heap.size + 1 + 1, 4, none⟩ = some (.slice (some ⟨b2, o2, none⟩) f2.bu.length c') ∧ w'.cell? ⟨b1, o1 + k, none⟩ = some (.int .u64 x) ∧ w'.cell? ⟨b2, o2 + k, none⟩ = some (.int .u64 y))) (by kernel_rfl) ?_ (fun hHeld0 => ?_)
      · try dsimp only
        exact ⟨y1, y2, y4, y5⟩
      refine wpAnyH_take (i := 0) (oi := { dst := some 71, op := Op.fieldAddr 44 (Operand.tmp 9) 4, type := 0, pos := "ref.go:217", after := #[], guard := none }) (v := ?_) rfl (by kernel_rfl) (by kernel_rfl) (by kernel_rfl) (fun _ _ _ h => h) (Or.inl ⟨by rfl, ?_⟩) (by assumption) ?_
      rotate_left
      · intro wq hSq
        try dsimp only at hSq
        go_simp
        try (with_reducible rfl)
      try simp only [Act.put, List.setIfInBounds_toArray, List.set_cons_zero, List.set_cons_succ]
      refine wpAnyH_take (i := 2) (oi := { dst := some 73, op := Op.fieldAddr 44 (Operand.tmp 4) 4, type := 0, pos := "ref.go:217", after := #[], guard := none }) (v := ?_) rfl (by kernel_rfl) (by kernel_rfl) (by kernel_rfl) (fun _ _ _ h => h) (Or.inl ⟨by rfl, ?_⟩) (by assumption) ?_
      rotate_left
      · intro wq hSq
        try dsimp only at hSq
        go_simp
        try (with_reducible rfl)
      try simp only [Act.put, List.setIfInBounds_toArray, List.set_cons_zero, List.set_cons_succ]
      refine wpAnyH_take (i := 3) (oi := { dst := some 74, op := Op.load 42 (Operand.tmp 73), type := 42, pos := "ref.go:217", after := #[{ on := 2, ground := Ground.data }], guard := none }) (v := ?_) rfl (by kernel_rfl) (by kernel_rfl) (by kernel_rfl) (fun _ _ _ h => h) (Or.inl ⟨by rfl, ?_⟩) (by assumption) ?_
      rotate_left
      · intro wq hSq
        try dsimp only at hSq
        go_simp
        try (with_reducible rfl)
      try simp only [Act.put, List.setIfInBounds_toArray, List.set_cons_zero, List.set_cons_succ]
      refine wpAnyH_take (i := 4) (oi := { dst := some 75, op := Op.move (Operand.tmp 10), type := 3, pos := "ref.go:217", after := #[], guard := none }) (v := ?_) rfl (by kernel_rfl) (by kernel_rfl) (by kernel_rfl) (fun _ _ _ h => h) (Or.inl ⟨by rfl, ?_⟩) (by assumption) ?_
      rotate_left
      · intro wq hSq
        try dsimp only at hSq
        go_simp
        try (with_reducible rfl)
      try simp only [Act.put, List.setIfInBounds_toArray, List.set_cons_zero, List.set_cons_succ]
      refine wpAnyH_take (i := 5) (oi := { dst := some 76, op := Op.indexAddr 42 (Operand.tmp 74) (Operand.tmp 75), type := 0, pos := "ref.go:217", after := #[{ on := 3, ground := Ground.data }, { on := 4, ground := Ground.data }], guard := none }) (v := ?_) rfl (by kernel_rfl) (by kernel_rfl) (by kernel_rfl) (fun _ _ _ h => h) (Or.inl ⟨by rfl, ?_⟩) (by assumption) ?_
      rotate_left
      · intro wq hSq
        try dsimp only at hSq
        go_simp
        try (with_reducible rfl)
      try simp only [Act.put, List.setIfInBounds_toArray, List.set_cons_zero, List.set_cons_succ]
      refine wpAnyH_take (i := 6) (oi := { dst := some 77, op := Op.load 38 (Operand.tmp 76), type := 38, pos := "ref.go:217", after := #[{ on := 5, ground := Ground.data }], guard := none }) (v := ?_) rfl (by kernel_rfl) (by kernel_rfl) (by kernel_rfl) (fun _ _ _ h => h) (Or.inl ⟨by rfl, ?_⟩) (by assumption) ?_
      rotate_left
      · intro wq hSq
        try dsimp only at hSq
        go_simp
        try (with_reducible rfl)
      try simp only [Act.put, List.setIfInBounds_toArray, List.set_cons_zero, List.set_cons_succ]
      refine wpAnyH_take (i := 7) (oi := { dst := some 78, op := Op.fieldAddr 44 (Operand.tmp 5) 4, type := 0, pos := "ref.go:217", after := #[], guard := none }) (v := ?_) rfl (by kernel_rfl) (by kernel_rfl) (by kernel_rfl) (fun _ _ _ h => h) (Or.inl ⟨by rfl, ?_⟩) (by assumption) ?_
      rotate_left
      · intro wq hSq
        try dsimp only at hSq
        go_simp
        try (with_reducible rfl)
      try simp only [Act.put, List.setIfInBounds_toArray, List.set_cons_zero, List.set_cons_succ]
      refine wpAnyH_take (i := 8) (oi := { dst := some 79, op := Op.load 42 (Operand.tmp 78), type := 42, pos := "ref.go:217", after := #[{ on := 7, ground := Ground.data }], guard := none }) (v := ?_) rfl (by kernel_rfl) (by kernel_rfl) (by kernel_rfl) (fun _ _ _ h => h) (Or.inl ⟨by rfl, ?_⟩) (by assumption) ?_
      rotate_left
      · intro wq hSq
        try dsimp only at hSq
        go_simp
        try (with_reducible rfl)
      try simp only [Act.put, List.setIfInBounds_toArray, List.set_cons_zero, List.set_cons_succ]
      refine wpAnyH_take (i := 9) (oi := { dst := some 80, op := Op.move (Operand.tmp 10), type := 3, pos := "ref.go:217", after := #[], guard := none }) (v := ?_) rfl (by kernel_rfl) (by kernel_rfl) (by kernel_rfl) (fun _ _ _ h => h) (Or.inl ⟨by rfl, ?_⟩) (by assumption) ?_
      rotate_left
      · intro wq hSq
        try dsimp only at hSq
        go_simp
        try (with_reducible rfl)
      try simp only [Act.put, List.setIfInBounds_toArray, List.set_cons_zero, List.set_cons_succ]
      refine wpAnyH_take (i := 10) (oi := { dst := some 81, op := Op.indexAddr 42 (Operand.tmp 79) (Operand.tmp 80), type := 0, pos := "ref.go:217", after := #[{ on := 8, ground := Ground.data }, { on := 9, ground := Ground.data }], guard := none }) (v := ?_) rfl (by kernel_rfl) (by kernel_rfl) (by kernel_rfl) (fun _ _ _ h => h) (Or.inl ⟨by rfl, ?_⟩) (by assumption) ?_
      rotate_left
      · intro wq hSq
        try dsimp only at hSq
        go_simp
        try (with_reducible rfl)
      try simp only [Act.put, List.setIfInBounds_toArray, List.set_cons_zero, List.set_cons_succ]
      refine wpAnyH_take (i := 11) (oi := { dst := some 82, op := Op.load 38 (Operand.tmp 81), type := 38, pos := "ref.go:217", after := #[{ on := 10, ground := Ground.data }], guard := none }) (v := ?_) rfl (by kernel_rfl) (by kernel_rfl) (by kernel_rfl) (fun _ _ _ h => h) (Or.inl ⟨by rfl, ?_⟩) (by assumption) ?_
      rotate_left
      · intro wq hSq
        try dsimp only at hSq
        go_simp
        try (with_reducible rfl)
      try simp only [Act.put, List.setIfInBounds_toArray, List.set_cons_zero, List.set_cons_succ]
      refine wpAnyH_take (i := 12) (oi := { dst := some 83, op := Op.binOp BinOp.add 38 (Operand.tmp 77) (Operand.tmp 82) 38, type := 38, pos := "ref.go:217", after := #[{ on := 6, ground := Ground.data }, { on := 11, ground := Ground.data }], guard := none }) (v := ?_) rfl (by kernel_rfl) (by kernel_rfl) (by kernel_rfl) (fun _ _ _ h => h) (Or.inl ⟨by rfl, ?_⟩) (by assumption) ?_
      rotate_left
      · intro wq hSq
        try dsimp only at hSq
        go_simp
        try (with_reducible rfl)
      try simp only [Act.put, List.setIfInBounds_toArray, List.set_cons_zero, List.set_cons_succ]
      refine wpAnyH_ready (rs := [1, 13]) (by kernel_rfl) (by simp) ?_
      refine AllReadyH.cons (o := { dst := some 72, op := Op.load 42 (Operand.tmp 71), type := 42, pos := "ref.go:217", after := #[{ on := 0, ground := Ground.data }], guard := none }) rfl (fun K hK => ?_) (AllReadyH.cons (o := { dst := some 84, op := Op.buildSlice 42 1 #[(0, Operand.tmp 83)], type := 42, pos := "ref.go:217", after := #[{ on := 12, ground := Ground.data }], guard := none }) rfl (fun K hK => ?_) AllReadyH.nil)
      · go_simp
        refine hK.out _ _ (by exact ⟨y1, y2, y4, y5⟩) (fun hHeldA => ?_)
        clear hK K hHeld0
        try simp only [Act.put, List.setIfInBounds_toArray, List.set_cons_zero, List.set_cons_succ]
        refine wpAnyH_ready (rs := [13]) (by kernel_rfl) (by simp) ?_
        refine AllReadyH.cons (o := { dst := some 84, op := Op.buildSlice 42 1 #[(0, Operand.tmp 83)], type := 42, pos := "ref.go:217", after := #[{ on := 12, ground := Ground.data }], guard := none }) rfl (fun K hK => ?_) AllReadyH.nil
        go_simp
        refine hK.out _ _ (by exact ⟨z1, z2, z4, z5⟩) (fun hHeldB => ?_)
        clear hK K hHeldA
        try simp only [Act.put, List.setIfInBounds_toArray, List.set_cons_zero, List.set_cons_succ]
        refine wpAnyH_ready (rs := [14]) (by kernel_rfl) (by simp) ?_
        refine AllReadyH.cons (o := { dst := some 85, op := Op.call { callee := Callee.builtin Builtin.append, args := #[Operand.tmp 72, Operand.tmp 84], argTypes := #[42, 42] }, type := 42, pos := "ref.go:217", after := #[{ on := 1, ground := Ground.data }, { on := 13, ground := Ground.data }], guard := none }) rfl (fun K hK => ?_) AllReadyH.nil
        refine step_append_lies _ (by rfl) _ _ _ (by rfl) w.heap.size 38 i0 _ 1 8 Try.underlying42 hi hz0 hz1 hz2 rfl (by omega) _ k (u64s ((addU f1.bu f2.bu).take k)) (by rfl) (own_part HK.out.own (Part.of_below (by first | exact ((Below.refl _ _).alloc (Nat.le_refl _) _).drew | exact ((Below.refl _ _).drew).alloc (Nat.le_refl _) _ | exact (Below.refl _ _).alloc (Nat.le_refl _) _) (Nat.le_refl _) []) (by simp)) ⟨wr.heap.size, 0, none⟩ 1 1 [.int .u64 (IntKind.u64.wrap (x + y))] (by rfl) (by rfl) (World.news_of_block (cs := #[.int .u64 (IntKind.u64.wrap (x + y))]) (t := 38) (fr := (0, 0)) (heap_alloc_new wr _)) (by simp [Value.oneCell']) (by omega) H3.out H4.out (by have := H5.out; simp; omega) (wr.heap.size + 1) (by simp) ?_; intro gg gcap w6 hown6 hgr6 hat6 hlt6; have HK1 := Lib.hid (HK.out.grow (by first | exact ((Below.refl _ _).alloc (Nat.le_refl _) _).drew | exact ((Below.refl _ _).drew).alloc (Nat.le_refl _) _ | exact (Below.refl _ _).alloc (Nat.le_refl _) _) HT.out hown6 hgr6); have v1 : w6.cell? ⟨w.heap.size + 1, 4, none⟩ = some (.slice (some ⟨b1, o1, none⟩) f1.bu.length c) := HK1.out.1.1.cell 4; have v2 : w6.cell? ⟨w.heap.size + 1 + 1, 4, none⟩ = some (.slice (some ⟨b2, o2, none⟩) f2.bu.length c') := HK1.out.1.2.1.cell 4; have v3 : w6.cell? ⟨w5.heap.size, 4, none⟩ = some v := HK1.out.1.2.2.1.cell 4; have v4 : w6.cell? ⟨b1, o1 + k, none⟩ = some (.int .u64 x) := HK1.out.1.2.2.2 ⟨b1, o1 + k, none⟩ _ b1x HC1.out; have v5 : w6.cell? ⟨b2, o2 + k, none⟩ = some (.int .u64 y) := HK1.out.1.2.2.2 ⟨b2, o2 + k, none⟩ _ b2x HC2.out; have gl := HK1.out.1.2.2.1.lt; have gf := HK1.out.1.2.2.1.free; have nO1 : w5.heap.size ≠ w.heap.size + 1 := (by have := HK.out.lo; omega); have nO2 : w5.heap.size ≠ w.heap.size + 1 + 1 := (by have := HK.out.lo; omega); have nO3 : w5.heap.size ≠ b1 := (by have := HK.out.lo; omega); have nO4 : w5.heap.size ≠ b2 := (by have := HK.out.lo; omega); have s1 := (World.cell?_setCell_far w6 ⟨w5.heap.size, 4, none⟩ ⟨w.heap.size + 1, 4, none⟩ (.slice (some ⟨gg, 0, none⟩) (k + 1) gcap) nO1).trans v1; have s2 := (World.cell?_setCell_far w6 ⟨w5.heap.size, 4, none⟩ ⟨w.heap.size + 1 + 1, 4, none⟩ (.slice (some ⟨gg, 0, none⟩) (k + 1) gcap) nO2).trans v2; have s4 := (World.cell?_setCell_far w6 ⟨w5.heap.size, 4, none⟩ ⟨b1, o1 + k, none⟩ (.slice (some ⟨gg, 0, none⟩) (k + 1) gcap) nO3).trans v4; have s5 := (World.cell?_setCell_far w6 ⟨w5.heap.size, 4, none⟩ ⟨b2, o2 + k, none⟩ (.slice (some ⟨gg, 0, none⟩) (k + 1) gcap) nO4).trans v5; clear hown6 hgr6 hat6
        refine hK.out _ _ (by exact ⟨v1, v2, v4, v5⟩) (fun hHeldF => ?_)
        clear hK K hHeldB
        try simp only [Act.put, List.setIfInBounds_toArray, List.set_cons_zero, List.set_cons_succ]
        refine wpAnyH_take (i := 15) (oi := { dst := some 86, op := Op.fieldAddr 44 (Operand.tmp 9) 4, type := 0, pos := "ref.go:217", after := #[{ on := 0, ground := Ground.phase }, { on := 1, ground := Ground.phase }, { on := 2, ground := Ground.phase }, { on := 3, ground := Ground.phase }, { on := 4, ground := Ground.phase }, { on := 5, ground := Ground.phase }, { on := 6, ground := Ground.phase }, { on := 7, ground := Ground.phase }, { on := 8, ground := Ground.phase }, { on := 9, ground := Ground.phase }, { on := 10, ground := Ground.phase }, { on := 11, ground := Ground.phase }, { on := 12, ground := Ground.phase }, { on := 13, ground := Ground.phase }, { on := 14, ground := Ground.phase }], guard := none }) (v := ?_) rfl (by kernel_rfl) (by kernel_rfl) (by kernel_rfl) (fun _ _ _ h => h) (Or.inl ⟨by rfl, ?_⟩) (by assumption) ?_
        rotate_left
        · intro wq hSq
          try dsimp only at hSq
          go_simp
          try (with_reducible rfl)
        try simp only [Act.put, List.setIfInBounds_toArray, List.set_cons_zero, List.set_cons_succ]
        refine wpAnyH_ready (rs := [16]) (by kernel_rfl) (by simp) ?_
        refine AllReadyH.cons (o := { dst := none, op := Op.store 42 (Operand.tmp 86) (Operand.tmp 85), type := 0, pos := "ref.go:217", after := #[{ on := 15, ground := Ground.data }, { on := 14, ground := Ground.data }, { on := 14, ground := Ground.chain }, { on := 0, ground := Ground.phase }, { on := 1, ground := Ground.phase }, { on := 2, ground := Ground.phase }, { on := 3, ground := Ground.phase }, { on := 4, ground := Ground.phase }, { on := 5, ground := Ground.phase }, { on := 6, ground := Ground.phase }, { on := 7, ground := Ground.phase }, { on := 8, ground := Ground.phase }, { on := 9, ground := Ground.phase }, { on := 10, ground := Ground.phase }, { on := 11, ground := Ground.phase }, { on := 12, ground := Ground.phase }, { on := 13, ground := Ground.phase }, { on := 14, ground := Ground.phase }], guard := none }) rfl (fun K hK => ?_) AllReadyH.nil
        go_simp
        refine hK.out _ _ (by exact ⟨s1, s2, s4, s5⟩) (fun hHeldG => ?_)
        clear hK K hHeldF
        try simp only [Act.put, List.setIfInBounds_toArray, List.set_cons_zero, List.set_cons_succ]
        refine wpAnyH_done (by kernel_rfl) ?_ _
        go_wp2_with fail
        go_roundw
        case rel => exact ⟨k + 1, _, by omega, by go_num, HK1.out.2⟩
        case measure => simp [intOf]; omega
      · go_simp
        refine hK.out _ _ (by exact ⟨z1, z2, z4, z5⟩) (fun hHeldA => ?_)
        clear hK K hHeld0
        try simp only [Act.put, List.setIfInBounds_toArray, List.set_cons_zero, List.set_cons_succ]
        refine wpAnyH_ready (rs := [1]) (by kernel_rfl) (by simp) ?_
        refine AllReadyH.cons (o := { dst := some 72, op := Op.load 42 (Operand.tmp 71), type := 42, pos := "ref.go:217", after := #[{ on := 0, ground := Ground.data }], guard := none }) rfl (fun K hK => ?_) AllReadyH.nil
        go_simp
        refine hK.out _ _ (by exact ⟨z1, z2, z4, z5⟩) (fun hHeldB => ?_)
        clear hK K hHeldA
        try simp only [Act.put, List.setIfInBounds_toArray, List.set_cons_zero, List.set_cons_succ]
        refine wpAnyH_ready (rs := [14]) (by kernel_rfl) (by simp) ?_
        refine AllReadyH.cons (o := { dst := some 85, op := Op.call { callee := Callee.builtin Builtin.append, args := #[Operand.tmp 72, Operand.tmp 84], argTypes := #[42, 42] }, type := 42, pos := "ref.go:217", after := #[{ on := 1, ground := Ground.data }, { on := 13, ground := Ground.data }], guard := none }) rfl (fun K hK => ?_) AllReadyH.nil
        refine step_append_lies _ (by rfl) _ _ _ (by rfl) w.heap.size 38 i0 _ 1 8 Try.underlying42 hi hz0 hz1 hz2 rfl (by omega) _ k (u64s ((addU f1.bu f2.bu).take k)) (by rfl) (own_part HK.out.own (Part.of_below (by first | exact ((Below.refl _ _).alloc (Nat.le_refl _) _).drew | exact ((Below.refl _ _).drew).alloc (Nat.le_refl _) _ | exact (Below.refl _ _).alloc (Nat.le_refl _) _) (Nat.le_refl _) []) (by simp)) ⟨wr.heap.size, 0, none⟩ 1 1 [.int .u64 (IntKind.u64.wrap (x + y))] (by rfl) (by rfl) (World.news_of_block (cs := #[.int .u64 (IntKind.u64.wrap (x + y))]) (t := 38) (fr := (0, 0)) (heap_alloc_new wr _)) (by simp [Value.oneCell']) (by omega) H3.out H4.out (by have := H5.out; simp; omega) (wr.heap.size + 1) (by simp) ?_; intro gg gcap w6 hown6 hgr6 hat6 hlt6; have HK1 := Lib.hid (HK.out.grow (by first | exact ((Below.refl _ _).alloc (Nat.le_refl _) _).drew | exact ((Below.refl _ _).drew).alloc (Nat.le_refl _) _ | exact (Below.refl _ _).alloc (Nat.le_refl _) _) HT.out hown6 hgr6); have v1 : w6.cell? ⟨w.heap.size + 1, 4, none⟩ = some (.slice (some ⟨b1, o1, none⟩) f1.bu.length c) := HK1.out.1.1.cell 4; have v2 : w6.cell? ⟨w.heap.size + 1 + 1, 4, none⟩ = some (.slice (some ⟨b2, o2, none⟩) f2.bu.length c') := HK1.out.1.2.1.cell 4; have v3 : w6.cell? ⟨w5.heap.size, 4, none⟩ = some v := HK1.out.1.2.2.1.cell 4; have v4 : w6.cell? ⟨b1, o1 + k, none⟩ = some (.int .u64 x) := HK1.out.1.2.2.2 ⟨b1, o1 + k, none⟩ _ b1x HC1.out; have v5 : w6.cell? ⟨b2, o2 + k, none⟩ = some (.int .u64 y) := HK1.out.1.2.2.2 ⟨b2, o2 + k, none⟩ _ b2x HC2.out; have gl := HK1.out.1.2.2.1.lt; have gf := HK1.out.1.2.2.1.free; have nO1 : w5.heap.size ≠ w.heap.size + 1 := (by have := HK.out.lo; omega); have nO2 : w5.heap.size ≠ w.heap.size + 1 + 1 := (by have := HK.out.lo; omega); have nO3 : w5.heap.size ≠ b1 := (by have := HK.out.lo; omega); have nO4 : w5.heap.size ≠ b2 := (by have := HK.out.lo; omega); have s1 := (World.cell?_setCell_far w6 ⟨w5.heap.size, 4, none⟩ ⟨w.heap.size + 1, 4, none⟩ (.slice (some ⟨gg, 0, none⟩) (k + 1) gcap) nO1).trans v1; have s2 := (World.cell?_setCell_far w6 ⟨w5.heap.size, 4, none⟩ ⟨w.heap.size + 1 + 1, 4, none⟩ (.slice (some ⟨gg, 0, none⟩) (k + 1) gcap) nO2).trans v2; have s4 := (World.cell?_setCell_far w6 ⟨w5.heap.size, 4, none⟩ ⟨b1, o1 + k, none⟩ (.slice (some ⟨gg, 0, none⟩) (k + 1) gcap) nO3).trans v4; have s5 := (World.cell?_setCell_far w6 ⟨w5.heap.size, 4, none⟩ ⟨b2, o2 + k, none⟩ (.slice (some ⟨gg, 0, none⟩) (k + 1) gcap) nO4).trans v5; clear hown6 hgr6 hat6
        refine hK.out _ _ (by exact ⟨v1, v2, v4, v5⟩) (fun hHeldF => ?_)
        clear hK K hHeldB
        try simp only [Act.put, List.setIfInBounds_toArray, List.set_cons_zero, List.set_cons_succ]
        refine wpAnyH_take (i := 15) (oi := { dst := some 86, op := Op.fieldAddr 44 (Operand.tmp 9) 4, type := 0, pos := "ref.go:217", after := #[{ on := 0, ground := Ground.phase }, { on := 1, ground := Ground.phase }, { on := 2, ground := Ground.phase }, { on := 3, ground := Ground.phase }, { on := 4, ground := Ground.phase }, { on := 5, ground := Ground.phase }, { on := 6, ground := Ground.phase }, { on := 7, ground := Ground.phase }, { on := 8, ground := Ground.phase }, { on := 9, ground := Ground.phase }, { on := 10, ground := Ground.phase }, { on := 11, ground := Ground.phase }, { on := 12, ground := Ground.phase }, { on := 13, ground := Ground.phase }, { on := 14, ground := Ground.phase }], guard := none }) (v := ?_) rfl (by kernel_rfl) (by kernel_rfl) (by kernel_rfl) (fun _ _ _ h => h) (Or.inl ⟨by rfl, ?_⟩) (by assumption) ?_
        rotate_left
        · intro wq hSq
          try dsimp only at hSq
          go_simp
          try (with_reducible rfl)
        try simp only [Act.put, List.setIfInBounds_toArray, List.set_cons_zero, List.set_cons_succ]
        refine wpAnyH_ready (rs := [16]) (by kernel_rfl) (by simp) ?_
        refine AllReadyH.cons (o := { dst := none, op := Op.store 42 (Operand.tmp 86) (Operand.tmp 85), type := 0, pos := "ref.go:217", after := #[{ on := 15, ground := Ground.data }, { on := 14, ground := Ground.data }, { on := 14, ground := Ground.chain }, { on := 0, ground := Ground.phase }, { on := 1, ground := Ground.phase }, { on := 2, ground := Ground.phase }, { on := 3, ground := Ground.phase }, { on := 4, ground := Ground.phase }, { on := 5, ground := Ground.phase }, { on := 6, ground := Ground.phase }, { on := 7, ground := Ground.phase }, { on := 8, ground := Ground.phase }, { on := 9, ground := Ground.phase }, { on := 10, ground := Ground.phase }, { on := 11, ground := Ground.phase }, { on := 12, ground := Ground.phase }, { on := 13, ground := Ground.phase }, { on := 14, ground := Ground.phase }], guard := none }) rfl (fun K hK => ?_) AllReadyH.nil
        go_simp
        refine hK.out _ _ (by exact ⟨s1, s2, s4, s5⟩) (fun hHeldG => ?_)
        clear hK K hHeldF
        try simp only [Act.put, List.setIfInBounds_toArray, List.set_cons_zero, List.set_cons_succ]
        refine wpAnyH_done (by kernel_rfl) ?_ _
        go_wp2_with fail
        go_roundw
        case rel => exact ⟨k + 1, _, by omega, by go_num, HK1.out.2⟩
        case measure => simp [intOf]; omega
    · obtain rfl : k = f1.bu.length := by omega
      obtain ⟨t0, t1, t2, t3, t4⟩ := HK.out.res.five
      have tl := HK.out.res.lt
      have tf := HK.out.res.free
      obtain ⟨a5, c5, rfl⟩ := own_form HK.out.own
      go_wp2
      refine bodyPost_ret (v := .tuple #[.agg #[.int .u64 (IntKind.u64.wrap (f1.c + f2.c)), .int .u64 (IntKind.u64.wrap (f1.su + f2.su)), .int .i64 f1.le, .int .i64 f2.gr, .slice a5 f1.bu.length c5], .int .i64 0]) (by simp [results, Try.results26, go_sem, t0, t1, t2, t3, t4]) rfl ?_
      suffices hE : Part [w.heap.size + 1 + 1 + 1] wr _ from by
        refine ⟨a5, c5, by rw [HM.out, HG.out], ?_, HK.out.low.trans (hE.below HK.out.low.size (by simp; omega))⟩
        have ho := HK.out.own
        rw [show (addU f1.bu f2.bu).take f1.bu.length = addU f1.bu f2.bu from List.take_of_length_le (by simp [addU]; omega)] at ho
        exact own_part ho hE (fun q hq => by simpa using own_off ho HK.out.res (by decide) q hq)
      repeat (first | (with_reducible exact Part.refl _ _) | refine Part.set ?_ (by simp) _)
theorem refMerge_y2b (hA : Ext .u64 w A f1.bu) (hB : Ext .u64 w B f2.bu) (hl1 : f1.bu.length ≤ 17592186044416) (h01 : ∀ (j : Nat) (x : Int), f1.bu[j]? = some x → 0 ≤ x) (h02 : ∀ (j : Nat) (x : Int), f2.bu[j]? = some x → 0 ≤ x) (hw1 : checkS l h d f1 = 0) (hw2 : checkS l h d f2 = 0) (hb : 0 ≤ f1.le) (hc : 0 ≤ f2.le) (hd : f1.le ≤ f2.le) (he : f2.gr ≤ f1.gr) :
    Calls Try.prog 26 #[.agg #[.int .i64 l, .int .i64 h, .int .i64 d], .agg #[.int .u64 f1.c, .int .u64 f1.su, .int .i64 f1.le, .int .i64 f1.gr, .slice A f1.bu.length c], .agg #[.int .u64 f2.c, .int .u64 f2.su, .int .i64 f2.le, .int .i64 f2.gr, .slice B f2.bu.length c']] w (RefMerged w f1 f2) := by
  obtain ⟨i0, hi, hz0, hz1, hz2⟩ := info_parts info29
  have HAW := Lib.hid hA
  have HBW := Lib.hid hB
  have HLW := Lib.hid hl1
  have hlen : f1.bu.length = f2.bu.length := by rw [(check_len hw1).2, (check_len hw2).2]
  have hl2 : f2.bu.length ≤ 17592186044416 := by omega
  have hl1 : f1.bu.length ≤ 17592186044416 := by omega
  have HLN := Lib.hid hlen
  have HM : Hid (lem f1.le f2.le = f1.le) := Lib.hid (by unfold lem; rw [if_neg (by omega)])
  have HG : Hid (max f1.gr f2.gr = f1.gr) := Lib.hid (by omega)
  have hb0 : Below w.heap.size w ((((w.alloc (.cells #[.int .i64 l, .int .i64 h, .int .i64 d] 23)).alloc (.cells #[.int .u64 f1.c, .int .u64 f1.su, .int .i64 f1.le, .int .i64 f1.gr, .slice A f1.bu.length c] 44)).alloc (.cells #[.int .u64 f2.c, .int .u64 f2.su, .int .i64 f2.le, .int .i64 f2.gr, .slice B f2.bu.length c'] 44)).alloc (.cells #[.int .u64 0, .int .u64 0, .int .i64 0, .int .i64 0, .slice none 0 0] 44)) := by repeat (first | (with_reducible exact Below.refl _ _) | refine Below.alloc ?_ (by simp; try omega) _)
  have HB0 := Lib.hid hb0
  have HA := Lib.hid (hA.on hb0)
  have HB := Lib.hid (hB.on hb0)
  have H01 := Lib.hid h01
  have H02 := Lib.hid h02
  have HR0 : Hid (Row ((((w.alloc (.cells #[.int .i64 l, .int .i64 h, .int .i64 d] 23)).alloc (.cells #[.int .u64 f1.c, .int .u64 f1.su, .int .i64 f1.le, .int .i64 f1.gr, .slice A f1.bu.length c] 44)).alloc (.cells #[.int .u64 f2.c, .int .u64 f2.su, .int .i64 f2.le, .int .i64 f2.gr, .slice B f2.bu.length c'] 44)).alloc (.cells #[.int .u64 0, .int .u64 0, .int .i64 0, .int .i64 0, .slice none 0 0] 44)) w.heap.size 23 [.int .i64 l, .int .i64 h, .int .i64 d]) := Lib.hid ((((Row.new w _ _).alloc _).alloc _).alloc _)
  have HR1 : Hid (Row ((((w.alloc (.cells #[.int .i64 l, .int .i64 h, .int .i64 d] 23)).alloc (.cells #[.int .u64 f1.c, .int .u64 f1.su, .int .i64 f1.le, .int .i64 f1.gr, .slice A f1.bu.length c] 44)).alloc (.cells #[.int .u64 f2.c, .int .u64 f2.su, .int .i64 f2.le, .int .i64 f2.gr, .slice B f2.bu.length c'] 44)).alloc (.cells #[.int .u64 0, .int .u64 0, .int .i64 0, .int .i64 0, .slice none 0 0] 44)) (w.heap.size + 1) 44 [.int .u64 f1.c, .int .u64 f1.su, .int .i64 f1.le, .int .i64 f1.gr, .slice A f1.bu.length c]) := Lib.hid (((Row.at_ (w := w.alloc _) (by simp)).alloc _).alloc _)
  have HR2 : Hid (Row ((((w.alloc (.cells #[.int .i64 l, .int .i64 h, .int .i64 d] 23)).alloc (.cells #[.int .u64 f1.c, .int .u64 f1.su, .int .i64 f1.le, .int .i64 f1.gr, .slice A f1.bu.length c] 44)).alloc (.cells #[.int .u64 f2.c, .int .u64 f2.su, .int .i64 f2.le, .int .i64 f2.gr, .slice B f2.bu.length c'] 44)).alloc (.cells #[.int .u64 0, .int .u64 0, .int .i64 0, .int .i64 0, .slice none 0 0] 44)) (w.heap.size + 1 + 1) 44 [.int .u64 f2.c, .int .u64 f2.su, .int .i64 f2.le, .int .i64 f2.gr, .slice B f2.bu.length c']) := Lib.hid ((Row.at_ (w := (w.alloc _).alloc _) (by simp)).alloc _)
  have HR3 : Hid (Row ((((w.alloc (.cells #[.int .i64 l, .int .i64 h, .int .i64 d] 23)).alloc (.cells #[.int .u64 f1.c, .int .u64 f1.su, .int .i64 f1.le, .int .i64 f1.gr, .slice A f1.bu.length c] 44)).alloc (.cells #[.int .u64 f2.c, .int .u64 f2.su, .int .i64 f2.le, .int .i64 f2.gr, .slice B f2.bu.length c'] 44)).alloc (.cells #[.int .u64 0, .int .u64 0, .int .i64 0, .int .i64 0, .slice none 0 0] 44)) (w.heap.size + 1 + 1 + 1) 44 [.int .u64 0, .int .u64 0, .int .i64 0, .int .i64 0, .slice none 0 0]) := Lib.hid (Row.at_ (w := ((w.alloc _).alloc _).alloc _) (by simp))
  clear hA hB hb0 h01 h02
  have K1 : Hid (checkP l h d f1.bu f1.c f1.su f1.le f1.gr = 0) := Lib.hid hw1
  have K2 : Hid (checkP l h d f2.bu f2.c f2.su f2.le f2.gr = 0) := Lib.hid hw2
  clear hw1 hw2 hlen
  go_enter Try.func26, Try.ntmps26
  go_wp2_with (first | (go_at_call 28; (with_reducible refine (refCheck_any (xs := f1.bu) HA.out hl1 H01.out).mono ?_); rw [K1.out]; rintro e w4 ⟨rfl, hb⟩; have PA1 := Lib.hid (HA.out.on hb); have PB1 := Lib.hid (HB.out.on hb); have LB1 := Lib.hid (HB0.out.trans (hb.mono HB0.out.size)); have Q01 := Lib.hid (HR0.out.below hb HR0.out.lt); have Q11 := Lib.hid (HR1.out.below hb HR1.out.lt); have Q21 := Lib.hid (HR2.out.below hb HR2.out.lt); have Q31 := Lib.hid (HR3.out.below hb HR3.out.lt); clear hb; have p0 := Q01.out.cell 0; have p1 := Q01.out.cell 1; have p2 := Q01.out.cell 2; obtain ⟨q0, q1, q2, q3, q4⟩ := Q11.out.five; obtain ⟨r0, r1, r2, r3, r4⟩ := Q21.out.five; obtain ⟨t0, t1, t2, t3, t4⟩ := Q31.out.five; have ql := Q11.out.lt; have rl := Q21.out.lt; have tl := Q31.out.lt; have tf := Q31.out.free) | (go_at_call 28; (with_reducible refine (refCheck_any (xs := f2.bu) PB1.out hl2 H02.out).mono ?_); rw [K2.out]; rintro e w5 ⟨rfl, hb⟩; have PA2 := Lib.hid (PA1.out.on hb); have PB2 := Lib.hid (PB1.out.on hb); have LB2 := Lib.hid (LB1.out.trans (hb.mono LB1.out.size)); have Q02 := Lib.hid (Q01.out.below hb Q01.out.lt); have Q12 := Lib.hid (Q11.out.below hb Q11.out.lt); have Q22 := Lib.hid (Q21.out.below hb Q21.out.lt); have Q32 := Lib.hid (Q31.out.below hb Q31.out.lt); clear hb; have p0 := Q02.out.cell 0; have p1 := Q02.out.cell 1; have p2 := Q02.out.cell 2; obtain ⟨q0, q1, q2, q3, q4⟩ := Q12.out.five; obtain ⟨r0, r1, r2, r3, r4⟩ := Q22.out.five; obtain ⟨t0, t1, t2, t3, t4⟩ := Q32.out.five; have ql := Q12.out.lt; have rl := Q22.out.lt; have tl := Q32.out.lt; have tf := Q32.out.free))
  go_loopw [10] (fun i wr => ∃ (k : Nat) (v : Value), k ≤ f1.bu.length ∧ i = .int .i64 k ∧ RefMid w f1 f2 A B c c' f1.le f1.gr w5.heap.size v k wr) (fun i _ => f1.bu.length - (intOf i).toNat)
  case atStart => exact ⟨0, _, Nat.zero_le _, rfl, mids_start Q12.out Q22.out Q32.out LB2.out⟩
  case round =>
    obtain ⟨k, v, hk, rfl, hK⟩ := hrel
    have HK := Lib.hid hK
    obtain ⟨q0, q1, q2, q3, q4⟩ := hK.x.five
    obtain ⟨r0, r1, r2, r3, r4⟩ := hK.y.five
    obtain ⟨e0, e1, e2, e3, e4⟩ := hK.box.five
    have ql := hK.x.lt
    have rl := hK.y.lt
    have el := hK.box.lt
    have ef := hK.box.free
    clear hK
    by_cases hlt : k < f1.bu.length
    · obtain ⟨x, hx⟩ : ∃ x, f1.bu[k]? = some x := ⟨f1.bu[k], List.getElem?_eq_getElem hlt⟩
      obtain ⟨y, hy⟩ : ∃ y, f2.bu[k]? = some y := ⟨f2.bu[k]'(by have := HLN.out; omega), List.getElem?_eq_getElem (by have := HLN.out; omega)⟩
      obtain ⟨b1, o1, hA1, hb1x, _⟩ := HAW.out k x hx
      obtain ⟨b1', o1', hA1', _, hcx⟩ := (HAW.out.on HK.out.low) k x hx
      subst hA1
      cases hA1'
      obtain ⟨b2, o2, hB1, hb2x, _⟩ := HBW.out k y hy
      obtain ⟨b2', o2', hB1', _, hcy⟩ := (HBW.out.on HK.out.low) k y hy
      subst hB1
      cases hB1'
      have HT := Lib.hid (addU_snoc hx hy)
      have H3 : Hid (k + 1 ≤ maxLen) := Lib.hid (by unfold maxLen; have := HLW.out; omega)
      have H4 : Hid ((k + 1) * 8 ≤ 140737488355328) := Lib.hid (by have := HLW.out; omega)
      have H5 : Hid (w.heap.size ≤ (wr.alloc (.cells #[.int .u64 (IntKind.u64.wrap (x + y))] 38)).heap.size) := Lib.hid (by have := HK.out.low.size; simp; omega)
      have hlt' : (k : Int) < (f1.bu.length : Int) := by omega
      have hlt2 : (k : Int) < (f2.bu.length : Int) := by have := HLN.out; omega
      clear hx hy
      obtain ⟨b1x, b2x⟩ : b1 < w.heap.size ∧ b2 < w.heap.size := ⟨hb1x, hb2x⟩
      have HC1 := Lib.hid hcx
      have bx1 : b1 < wr.heap.size := Nat.lt_of_lt_of_le hb1x HK.out.low.size
      have bx2 : b2 < wr.heap.size := Nat.lt_of_lt_of_le hb2x HK.out.low.size
      have hbA : Below wr.heap.size wr (wr.alloc (.cells #[.int .u64 (IntKind.u64.wrap (x + y))] 38)) := (Below.refl _ _).alloc (Nat.le_refl _) _
      have y1 : wr.drew.cell? ⟨w.heap.size + 1, 4, none⟩ = some (.slice (some ⟨b1, o1, none⟩) f1.bu.length c) := q4
      have y2 : wr.drew.cell? ⟨w.heap.size + 1 + 1, 4, none⟩ = some (.slice (some ⟨b2, o2, none⟩) f2.bu.length c') := r4
      have y3 : wr.drew.cell? ⟨w5.heap.size, 4, none⟩ = some v := e4
      have y4 : wr.drew.cell? ⟨b1, o1 + k, none⟩ = some (.int .u64 x) := hcx
      have y5 : wr.drew.cell? ⟨b2, o2 + k, none⟩ = some (.int .u64 y) := hcy
      have z1 : (wr.alloc (.cells #[.int .u64 (IntKind.u64.wrap (x + y))] 38)).drew.cell? ⟨w.heap.size + 1, 4, none⟩ = some (.slice (some ⟨b1, o1, none⟩) f1.bu.length c) := (hbA.cell (p := ⟨w.heap.size + 1, 4, none⟩) ql).trans q4
      have z2 : (wr.alloc (.cells #[.int .u64 (IntKind.u64.wrap (x + y))] 38)).drew.cell? ⟨w.heap.size + 1 + 1, 4, none⟩ = some (.slice (some ⟨b2, o2, none⟩) f2.bu.length c') := (hbA.cell (p := ⟨w.heap.size + 1 + 1, 4, none⟩) rl).trans r4
      have z3 : (wr.alloc (.cells #[.int .u64 (IntKind.u64.wrap (x + y))] 38)).drew.cell? ⟨w5.heap.size, 4, none⟩ = some v := (hbA.cell (p := ⟨w5.heap.size, 4, none⟩) el).trans e4
      have z4 : (wr.alloc (.cells #[.int .u64 (IntKind.u64.wrap (x + y))] 38)).drew.cell? ⟨b1, o1 + k, none⟩ = some (.int .u64 x) := (hbA.cell (p := ⟨b1, o1 + k, none⟩) bx1).trans hcx
      have z5 : (wr.alloc (.cells #[.int .u64 (IntKind.u64.wrap (x + y))] 38)).drew.cell? ⟨b2, o2 + k, none⟩ = some (.int .u64 y) := (hbA.cell (p := ⟨b2, o2 + k, none⟩) bx2).trans hcy
      clear hbA
      have HC2 := Lib.hid hcy
      go_wp2_with fail
      refine wp_region_held_drew (S := (fun w' => w'.cell? ⟨w.heap.size + 1, 4, none⟩ = some (.slice (some ⟨b1, o1, none⟩) f1.bu.length c) ∧ w'.cell? ⟨w.heap.size + 1 + 1, 4, none⟩ = some (.slice (some ⟨b2, o2, none⟩) f2.bu.length c') ∧ w'.cell? ⟨b1, o1 + k, none⟩ = some (.int .u64 x) ∧ w'.cell? ⟨b2, o2 + k, none⟩ = some (.int .u64 y))) (by kernel_rfl) ?_ (fun hHeld0 => ?_)
      · try dsimp only
        exact ⟨y1, y2, y4, y5⟩
      refine wpAnyH_take (i := 0) (oi := { dst := some 71, op := Op.fieldAddr 44 (Operand.tmp 9) 4, type := 0, pos := "ref.go:217", after := #[], guard := none }) (v := ?_) rfl (by kernel_rfl) (by kernel_rfl) (by kernel_rfl) (fun _ _ _ h => h) (Or.inl ⟨by rfl, ?_⟩) (by assumption) ?_
      rotate_left
      · intro wq hSq
        try dsimp only at hSq
        go_simp
        try (with_reducible rfl)
      try simp only [Act.put, List.setIfInBounds_toArray, List.set_cons_zero, List.set_cons_succ]
      refine wpAnyH_take (i := 2) (oi := { dst := some 73, op := Op.fieldAddr 44 (Operand.tmp 4) 4, type := 0, pos := "ref.go:217", after := #[], guard := none }) (v := ?_) rfl (by kernel_rfl) (by kernel_rfl) (by kernel_rfl) (fun _ _ _ h => h) (Or.inl ⟨by rfl, ?_⟩) (by assumption) ?_
      rotate_left
      · intro wq hSq
        try dsimp only at hSq
        go_simp
        try (with_reducible rfl)
      try simp only [Act.put, List.setIfInBounds_toArray, List.set_cons_zero, List.set_cons_succ]
      refine wpAnyH_take (i := 3) (oi := { dst := some 74, op := Op.load 42 (Operand.tmp 73), type := 42, pos := "ref.go:217", after := #[{ on := 2, ground := Ground.data }], guard := none }) (v := ?_) rfl (by kernel_rfl) (by kernel_rfl) (by kernel_rfl) (fun _ _ _ h => h) (Or.inl ⟨by rfl, ?_⟩) (by assumption) ?_
      rotate_left
      · intro wq hSq
        try dsimp only at hSq
        go_simp
        try (with_reducible rfl)
      try simp only [Act.put, List.setIfInBounds_toArray, List.set_cons_zero, List.set_cons_succ]
      refine wpAnyH_take (i := 4) (oi := { dst := some 75, op := Op.move (Operand.tmp 10), type := 3, pos := "ref.go:217", after := #[], guard := none }) (v := ?_) rfl (by kernel_rfl) (by kernel_rfl) (by kernel_rfl) (fun _ _ _ h => h) (Or.inl ⟨by rfl, ?_⟩) (by assumption) ?_
      rotate_left
      · intro wq hSq
        try dsimp only at hSq
        go_simp
        try (with_reducible rfl)
      try simp only [Act.put, List.setIfInBounds_toArray, List.set_cons_zero, List.set_cons_succ]
      refine wpAnyH_take (i := 5) (oi := { dst := some 76, op := Op.indexAddr 42 (Operand.tmp 74) (Operand.tmp 75), type := 0, pos := "ref.go:217", after := #[{ on := 3, ground := Ground.data }, { on := 4, ground := Ground.data }], guard := none }) (v := ?_) rfl (by kernel_rfl) (by kernel_rfl) (by kernel_rfl) (fun _ _ _ h => h) (Or.inl ⟨by rfl, ?_⟩) (by assumption) ?_
      rotate_left
      · intro wq hSq
        try dsimp only at hSq
        go_simp
        try (with_reducible rfl)
      try simp only [Act.put, List.setIfInBounds_toArray, List.set_cons_zero, List.set_cons_succ]
      refine wpAnyH_take (i := 6) (oi := { dst := some 77, op := Op.load 38 (Operand.tmp 76), type := 38, pos := "ref.go:217", after := #[{ on := 5, ground := Ground.data }], guard := none }) (v := ?_) rfl (by kernel_rfl) (by kernel_rfl) (by kernel_rfl) (fun _ _ _ h => h) (Or.inl ⟨by rfl, ?_⟩) (by assumption) ?_
      rotate_left
      · intro wq hSq
        try dsimp only at hSq
        go_simp
        try (with_reducible rfl)
      try simp only [Act.put, List.setIfInBounds_toArray, List.set_cons_zero, List.set_cons_succ]
      refine wpAnyH_take (i := 7) (oi := { dst := some 78, op := Op.fieldAddr 44 (Operand.tmp 5) 4, type := 0, pos := "ref.go:217", after := #[], guard := none }) (v := ?_) rfl (by kernel_rfl) (by kernel_rfl) (by kernel_rfl) (fun _ _ _ h => h) (Or.inl ⟨by rfl, ?_⟩) (by assumption) ?_
      rotate_left
      · intro wq hSq
        try dsimp only at hSq
        go_simp
        try (with_reducible rfl)
      try simp only [Act.put, List.setIfInBounds_toArray, List.set_cons_zero, List.set_cons_succ]
      refine wpAnyH_take (i := 8) (oi := { dst := some 79, op := Op.load 42 (Operand.tmp 78), type := 42, pos := "ref.go:217", after := #[{ on := 7, ground := Ground.data }], guard := none }) (v := ?_) rfl (by kernel_rfl) (by kernel_rfl) (by kernel_rfl) (fun _ _ _ h => h) (Or.inl ⟨by rfl, ?_⟩) (by assumption) ?_
      rotate_left
      · intro wq hSq
        try dsimp only at hSq
        go_simp
        try (with_reducible rfl)
      try simp only [Act.put, List.setIfInBounds_toArray, List.set_cons_zero, List.set_cons_succ]
      refine wpAnyH_take (i := 9) (oi := { dst := some 80, op := Op.move (Operand.tmp 10), type := 3, pos := "ref.go:217", after := #[], guard := none }) (v := ?_) rfl (by kernel_rfl) (by kernel_rfl) (by kernel_rfl) (fun _ _ _ h => h) (Or.inl ⟨by rfl, ?_⟩) (by assumption) ?_
      rotate_left
      · intro wq hSq
        try dsimp only at hSq
        go_simp
        try (with_reducible rfl)
      try simp only [Act.put, List.setIfInBounds_toArray, List.set_cons_zero, List.set_cons_succ]
      refine wpAnyH_take (i := 10) (oi := { dst := some 81, op := Op.indexAddr 42 (Operand.tmp 79) (Operand.tmp 80), type := 0, pos := "ref.go:217", after := #[{ on := 8, ground := Ground.data }, { on := 9, ground := Ground.data }], guard := none }) (v := ?_) rfl (by kernel_rfl) (by kernel_rfl) (by kernel_rfl) (fun _ _ _ h => h) (Or.inl ⟨by rfl, ?_⟩) (by assumption) ?_
      rotate_left
      · intro wq hSq
        try dsimp only at hSq
        go_simp
        try (with_reducible rfl)
      try simp only [Act.put, List.setIfInBounds_toArray, List.set_cons_zero, List.set_cons_succ]
      refine wpAnyH_take (i := 11) (oi := { dst := some 82, op := Op.load 38 (Operand.tmp 81), type := 38, pos := "ref.go:217", after := #[{ on := 10, ground := Ground.data }], guard := none }) (v := ?_) rfl (by kernel_rfl) (by kernel_rfl) (by kernel_rfl) (fun _ _ _ h => h) (Or.inl ⟨by rfl, ?_⟩) (by assumption) ?_
      rotate_left
      · intro wq hSq
        try dsimp only at hSq
        go_simp
        try (with_reducible rfl)
      try simp only [Act.put, List.setIfInBounds_toArray, List.set_cons_zero, List.set_cons_succ]
      refine wpAnyH_take (i := 12) (oi := { dst := some 83, op := Op.binOp BinOp.add 38 (Operand.tmp 77) (Operand.tmp 82) 38, type := 38, pos := "ref.go:217", after := #[{ on := 6, ground := Ground.data }, { on := 11, ground := Ground.data }], guard := none }) (v := ?_) rfl (by kernel_rfl) (by kernel_rfl) (by kernel_rfl) (fun _ _ _ h => h) (Or.inl ⟨by rfl, ?_⟩) (by assumption) ?_
      rotate_left
      · intro wq hSq
        try dsimp only at hSq
        go_simp
        try (with_reducible rfl)
      try simp only [Act.put, List.setIfInBounds_toArray, List.set_cons_zero, List.set_cons_succ]
      refine wpAnyH_ready (rs := [1, 13]) (by kernel_rfl) (by simp) ?_
      refine AllReadyH.cons (o := { dst := some 72, op := Op.load 42 (Operand.tmp 71), type := 42, pos := "ref.go:217", after := #[{ on := 0, ground := Ground.data }], guard := none }) rfl (fun K hK => ?_) (AllReadyH.cons (o := { dst := some 84, op := Op.buildSlice 42 1 #[(0, Operand.tmp 83)], type := 42, pos := "ref.go:217", after := #[{ on := 12, ground := Ground.data }], guard := none }) rfl (fun K hK => ?_) AllReadyH.nil)
      · go_simp
        refine hK.out _ _ (by exact ⟨y1, y2, y4, y5⟩) (fun hHeldA => ?_)
        clear hK K hHeld0
        try simp only [Act.put, List.setIfInBounds_toArray, List.set_cons_zero, List.set_cons_succ]
        refine wpAnyH_ready (rs := [13]) (by kernel_rfl) (by simp) ?_
        refine AllReadyH.cons (o := { dst := some 84, op := Op.buildSlice 42 1 #[(0, Operand.tmp 83)], type := 42, pos := "ref.go:217", after := #[{ on := 12, ground := Ground.data }], guard := none }) rfl (fun K hK => ?_) AllReadyH.nil
        go_simp
        refine hK.out _ _ (by exact ⟨z1, z2, z4, z5⟩) (fun hHeldB => ?_)
        clear hK K hHeldA
        try simp only [Act.put, List.setIfInBounds_toArray, List.set_cons_zero, List.set_cons_succ]
        refine wpAnyH_ready (rs := [14]) (by kernel_rfl) (by simp) ?_
        refine AllReadyH.cons (o := { dst := some 85, op := Op.call { callee := Callee.builtin Builtin.append, args := #[Operand.tmp 72, Operand.tmp 84], argTypes := #[42, 42] }, type := 42, pos := "ref.go:217", after := #[{ on := 1, ground := Ground.data }, { on := 13, ground := Ground.data }], guard := none }) rfl (fun K hK => ?_) AllReadyH.nil
        refine step_append_lies _ (by rfl) _ _ _ (by rfl) w.heap.size 38 i0 _ 1 8 Try.underlying42 hi hz0 hz1 hz2 rfl (by omega) _ k (u64s ((addU f1.bu f2.bu).take k)) (by rfl) (own_part HK.out.own (Part.of_below (by first | exact ((Below.refl _ _).alloc (Nat.le_refl _) _).drew | exact ((Below.refl _ _).drew).alloc (Nat.le_refl _) _ | exact (Below.refl _ _).alloc (Nat.le_refl _) _) (Nat.le_refl _) []) (by simp)) ⟨wr.heap.size, 0, none⟩ 1 1 [.int .u64 (IntKind.u64.wrap (x + y))] (by rfl) (by rfl) (World.news_of_block (cs := #[.int .u64 (IntKind.u64.wrap (x + y))]) (t := 38) (fr := (0, 0)) (heap_alloc_new wr _)) (by simp [Value.oneCell']) (by omega) H3.out H4.out (by have := H5.out; simp; omega) (wr.heap.size + 1) (by simp) ?_; intro gg gcap w6 hown6 hgr6 hat6 hlt6; have HK1 := Lib.hid (HK.out.grow (by first | exact ((Below.refl _ _).alloc (Nat.le_refl _) _).drew | exact ((Below.refl _ _).drew).alloc (Nat.le_refl _) _ | exact (Below.refl _ _).alloc (Nat.le_refl _) _) HT.out hown6 hgr6); have v1 : w6.cell? ⟨w.heap.size + 1, 4, none⟩ = some (.slice (some ⟨b1, o1, none⟩) f1.bu.length c) := HK1.out.1.1.cell 4; have v2 : w6.cell? ⟨w.heap.size + 1 + 1, 4, none⟩ = some (.slice (some ⟨b2, o2, none⟩) f2.bu.length c') := HK1.out.1.2.1.cell 4; have v3 : w6.cell? ⟨w5.heap.size, 4, none⟩ = some v := HK1.out.1.2.2.1.cell 4; have v4 : w6.cell? ⟨b1, o1 + k, none⟩ = some (.int .u64 x) := HK1.out.1.2.2.2 ⟨b1, o1 + k, none⟩ _ b1x HC1.out; have v5 : w6.cell? ⟨b2, o2 + k, none⟩ = some (.int .u64 y) := HK1.out.1.2.2.2 ⟨b2, o2 + k, none⟩ _ b2x HC2.out; have gl := HK1.out.1.2.2.1.lt; have gf := HK1.out.1.2.2.1.free; have nO1 : w5.heap.size ≠ w.heap.size + 1 := (by have := HK.out.lo; omega); have nO2 : w5.heap.size ≠ w.heap.size + 1 + 1 := (by have := HK.out.lo; omega); have nO3 : w5.heap.size ≠ b1 := (by have := HK.out.lo; omega); have nO4 : w5.heap.size ≠ b2 := (by have := HK.out.lo; omega); have s1 := (World.cell?_setCell_far w6 ⟨w5.heap.size, 4, none⟩ ⟨w.heap.size + 1, 4, none⟩ (.slice (some ⟨gg, 0, none⟩) (k + 1) gcap) nO1).trans v1; have s2 := (World.cell?_setCell_far w6 ⟨w5.heap.size, 4, none⟩ ⟨w.heap.size + 1 + 1, 4, none⟩ (.slice (some ⟨gg, 0, none⟩) (k + 1) gcap) nO2).trans v2; have s4 := (World.cell?_setCell_far w6 ⟨w5.heap.size, 4, none⟩ ⟨b1, o1 + k, none⟩ (.slice (some ⟨gg, 0, none⟩) (k + 1) gcap) nO3).trans v4; have s5 := (World.cell?_setCell_far w6 ⟨w5.heap.size, 4, none⟩ ⟨b2, o2 + k, none⟩ (.slice (some ⟨gg, 0, none⟩) (k + 1) gcap) nO4).trans v5; clear hown6 hgr6 hat6
        refine hK.out _ _ (by exact ⟨v1, v2, v4, v5⟩) (fun hHeldF => ?_)
        clear hK K hHeldB
        try simp only [Act.put, List.setIfInBounds_toArray, List.set_cons_zero, List.set_cons_succ]
        refine wpAnyH_take (i := 15) (oi := { dst := some 86, op := Op.fieldAddr 44 (Operand.tmp 9) 4, type := 0, pos := "ref.go:217", after := #[{ on := 0, ground := Ground.phase }, { on := 1, ground := Ground.phase }, { on := 2, ground := Ground.phase }, { on := 3, ground := Ground.phase }, { on := 4, ground := Ground.phase }, { on := 5, ground := Ground.phase }, { on := 6, ground := Ground.phase }, { on := 7, ground := Ground.phase }, { on := 8, ground := Ground.phase }, { on := 9, ground := Ground.phase }, { on := 10, ground := Ground.phase }, { on := 11, ground := Ground.phase }, { on := 12, ground := Ground.phase }, { on := 13, ground := Ground.phase }, { on := 14, ground := Ground.phase }], guard := none }) (v := ?_) rfl (by kernel_rfl) (by kernel_rfl) (by kernel_rfl) (fun _ _ _ h => h) (Or.inl ⟨by rfl, ?_⟩) (by assumption) ?_
        rotate_left
        · intro wq hSq
          try dsimp only at hSq
          go_simp
          try (with_reducible rfl)
        try simp only [Act.put, List.setIfInBounds_toArray, List.set_cons_zero, List.set_cons_succ]
        refine wpAnyH_ready (rs := [16]) (by kernel_rfl) (by simp) ?_
        refine AllReadyH.cons (o := { dst := none, op := Op.store 42 (Operand.tmp 86) (Operand.tmp 85), type := 0, pos := "ref.go:217", after := #[{ on := 15, ground := Ground.data }, { on := 14, ground := Ground.data }, { on := 14, ground := Ground.chain }, { on := 0, ground := Ground.phase }, { on := 1, ground := Ground.phase }, { on := 2, ground := Ground.phase }, { on := 3, ground := Ground.phase }, { on := 4, ground := Ground.phase }, { on := 5, ground := Ground.phase }, { on := 6, ground := Ground.phase }, { on := 7, ground := Ground.phase }, { on := 8, ground := Ground.phase }, { on := 9, ground := Ground.phase }, { on := 10, ground := Ground.phase }, { on := 11, ground := Ground.phase }, { on := 12, ground := Ground.phase }, { on := 13, ground := Ground.phase }, { on := 14, ground := Ground.phase }], guard := none }) rfl (fun K hK => ?_) AllReadyH.nil
        go_simp
        refine hK.out _ _ (by exact ⟨s1, s2, s4, s5⟩) (fun hHeldG => ?_)
        clear hK K hHeldF
        try simp only [Act.put, List.setIfInBounds_toArray, List.set_cons_zero, List.set_cons_succ]
        refine wpAnyH_done (by kernel_rfl) ?_ _
        go_wp2_with fail
        go_roundw
        case rel => exact ⟨k + 1, _, by omega, by go_num, HK1.out.2⟩
        case measure => simp [intOf]; omega
      · go_simp
        refine hK.out _ _ (by exact ⟨z1, z2, z4, z5⟩) (fun hHeldA => ?_)
        clear hK K hHeld0
        try simp only [Act.put, List.setIfInBounds_toArray, List.set_cons_zero, List.set_cons_succ]
        refine wpAnyH_ready (rs := [1]) (by kernel_rfl) (by simp) ?_
        refine AllReadyH.cons (o := { dst := some 72, op := Op.load 42 (Operand.tmp 71), type := 42, pos := "ref.go:217", after := #[{ on := 0, ground := Ground.data }], guard := none }) rfl (fun K hK => ?_) AllReadyH.nil
        go_simp
        refine hK.out _ _ (by exact ⟨z1, z2, z4, z5⟩) (fun hHeldB => ?_)
        clear hK K hHeldA
        try simp only [Act.put, List.setIfInBounds_toArray, List.set_cons_zero, List.set_cons_succ]
        refine wpAnyH_ready (rs := [14]) (by kernel_rfl) (by simp) ?_
        refine AllReadyH.cons (o := { dst := some 85, op := Op.call { callee := Callee.builtin Builtin.append, args := #[Operand.tmp 72, Operand.tmp 84], argTypes := #[42, 42] }, type := 42, pos := "ref.go:217", after := #[{ on := 1, ground := Ground.data }, { on := 13, ground := Ground.data }], guard := none }) rfl (fun K hK => ?_) AllReadyH.nil
        refine step_append_lies _ (by rfl) _ _ _ (by rfl) w.heap.size 38 i0 _ 1 8 Try.underlying42 hi hz0 hz1 hz2 rfl (by omega) _ k (u64s ((addU f1.bu f2.bu).take k)) (by rfl) (own_part HK.out.own (Part.of_below (by first | exact ((Below.refl _ _).alloc (Nat.le_refl _) _).drew | exact ((Below.refl _ _).drew).alloc (Nat.le_refl _) _ | exact (Below.refl _ _).alloc (Nat.le_refl _) _) (Nat.le_refl _) []) (by simp)) ⟨wr.heap.size, 0, none⟩ 1 1 [.int .u64 (IntKind.u64.wrap (x + y))] (by rfl) (by rfl) (World.news_of_block (cs := #[.int .u64 (IntKind.u64.wrap (x + y))]) (t := 38) (fr := (0, 0)) (heap_alloc_new wr _)) (by simp [Value.oneCell']) (by omega) H3.out H4.out (by have := H5.out; simp; omega) (wr.heap.size + 1) (by simp) ?_; intro gg gcap w6 hown6 hgr6 hat6 hlt6; have HK1 := Lib.hid (HK.out.grow (by first | exact ((Below.refl _ _).alloc (Nat.le_refl _) _).drew | exact ((Below.refl _ _).drew).alloc (Nat.le_refl _) _ | exact (Below.refl _ _).alloc (Nat.le_refl _) _) HT.out hown6 hgr6); have v1 : w6.cell? ⟨w.heap.size + 1, 4, none⟩ = some (.slice (some ⟨b1, o1, none⟩) f1.bu.length c) := HK1.out.1.1.cell 4; have v2 : w6.cell? ⟨w.heap.size + 1 + 1, 4, none⟩ = some (.slice (some ⟨b2, o2, none⟩) f2.bu.length c') := HK1.out.1.2.1.cell 4; have v3 : w6.cell? ⟨w5.heap.size, 4, none⟩ = some v := HK1.out.1.2.2.1.cell 4; have v4 : w6.cell? ⟨b1, o1 + k, none⟩ = some (.int .u64 x) := HK1.out.1.2.2.2 ⟨b1, o1 + k, none⟩ _ b1x HC1.out; have v5 : w6.cell? ⟨b2, o2 + k, none⟩ = some (.int .u64 y) := HK1.out.1.2.2.2 ⟨b2, o2 + k, none⟩ _ b2x HC2.out; have gl := HK1.out.1.2.2.1.lt; have gf := HK1.out.1.2.2.1.free; have nO1 : w5.heap.size ≠ w.heap.size + 1 := (by have := HK.out.lo; omega); have nO2 : w5.heap.size ≠ w.heap.size + 1 + 1 := (by have := HK.out.lo; omega); have nO3 : w5.heap.size ≠ b1 := (by have := HK.out.lo; omega); have nO4 : w5.heap.size ≠ b2 := (by have := HK.out.lo; omega); have s1 := (World.cell?_setCell_far w6 ⟨w5.heap.size, 4, none⟩ ⟨w.heap.size + 1, 4, none⟩ (.slice (some ⟨gg, 0, none⟩) (k + 1) gcap) nO1).trans v1; have s2 := (World.cell?_setCell_far w6 ⟨w5.heap.size, 4, none⟩ ⟨w.heap.size + 1 + 1, 4, none⟩ (.slice (some ⟨gg, 0, none⟩) (k + 1) gcap) nO2).trans v2; have s4 := (World.cell?_setCell_far w6 ⟨w5.heap.size, 4, none⟩ ⟨b1, o1 + k, none⟩ (.slice (some ⟨gg, 0, none⟩) (k + 1) gcap) nO3).trans v4; have s5 := (World.cell?_setCell_far w6 ⟨w5.heap.size, 4, none⟩ ⟨b2, o2 + k, none⟩ (.slice (some ⟨gg, 0, none⟩) (k + 1) gcap) nO4).trans v5; clear hown6 hgr6 hat6
        refine hK.out _ _ (by exact ⟨v1, v2, v4, v5⟩) (fun hHeldF => ?_)
        clear hK K hHeldB
        try simp only [Act.put, List.setIfInBounds_toArray, List.set_cons_zero, List.set_cons_succ]
        refine wpAnyH_take (i := 15) (oi := { dst := some 86, op := Op.fieldAddr 44 (Operand.tmp 9) 4, type := 0, pos := "ref.go:217", after := #[{ on := 0, ground := Ground.phase }, { on := 1, ground := Ground.phase }, { on := 2, ground := Ground.phase }, { on := 3, ground := Ground.phase }, { on := 4, ground := Ground.phase }, { on := 5, ground := Ground.phase }, { on := 6, ground := Ground.phase }, { on := 7, ground := Ground.phase }, { on := 8, ground := Ground.phase }, { on := 9, ground := Ground.phase }, { on := 10, ground := Ground.phase }, { on := 11, ground := Ground.phase }, { on := 12, ground := Ground.phase }, { on := 13, ground := Ground.phase }, { on := 14, ground := Ground.phase }], guard := none }) (v := ?_) rfl (by kernel_rfl) (by kernel_rfl) (by kernel_rfl) (fun _ _ _ h => h) (Or.inl ⟨by rfl, ?_⟩) (by assumption) ?_
        rotate_left
        · intro wq hSq
          try dsimp only at hSq
          go_simp
          try (with_reducible rfl)
        try simp only [Act.put, List.setIfInBounds_toArray, List.set_cons_zero, List.set_cons_succ]
        refine wpAnyH_ready (rs := [16]) (by kernel_rfl) (by simp) ?_
        refine AllReadyH.cons (o := { dst := none, op := Op.store 42 (Operand.tmp 86) (Operand.tmp 85), type := 0, pos := "ref.go:217", after := #[{ on := 15, ground := Ground.data }, { on := 14, ground := Ground.data }, { on := 14, ground := Ground.chain }, { on := 0, ground := Ground.phase }, { on := 1, ground := Ground.phase }, { on := 2, ground := Ground.phase }, { on := 3, ground := Ground.phase }, { on := 4, ground := Ground.phase }, { on := 5, ground := Ground.phase }, { on := 6, ground := Ground.phase }, { on := 7, ground := Ground.phase }, { on := 8, ground := Ground.phase }, { on := 9, ground := Ground.phase }, { on := 10, ground := Ground.phase }, { on := 11, ground := Ground.phase }, { on := 12, ground := Ground.phase }, { on := 13, ground := Ground.phase }, { on := 14, ground := Ground.phase }], guard := none }) rfl (fun K hK => ?_) AllReadyH.nil
        go_simp
        refine hK.out _ _ (by exact ⟨s1, s2, s4, s5⟩) (fun hHeldG => ?_)
        clear hK K hHeldF
        try simp only [Act.put, List.setIfInBounds_toArray, List.set_cons_zero, List.set_cons_succ]
        refine wpAnyH_done (by kernel_rfl) ?_ _
        go_wp2_with fail
        go_roundw
        case rel => exact ⟨k + 1, _, by omega, by go_num, HK1.out.2⟩
        case measure => simp [intOf]; omega
    · obtain rfl : k = f1.bu.length := by omega
      obtain ⟨t0, t1, t2, t3, t4⟩ := HK.out.res.five
      have tl := HK.out.res.lt
      have tf := HK.out.res.free
      obtain ⟨a5, c5, rfl⟩ := own_form HK.out.own
      go_wp2
      refine bodyPost_ret (v := .tuple #[.agg #[.int .u64 (IntKind.u64.wrap (f1.c + f2.c)), .int .u64 (IntKind.u64.wrap (f1.su + f2.su)), .int .i64 f1.le, .int .i64 f1.gr, .slice a5 f1.bu.length c5], .int .i64 0]) (by simp [results, Try.results26, go_sem, t0, t1, t2, t3, t4]) rfl ?_
      suffices hE : Part [w.heap.size + 1 + 1 + 1] wr _ from by
        refine ⟨a5, c5, by rw [HM.out, HG.out], ?_, HK.out.low.trans (hE.below HK.out.low.size (by simp; omega))⟩
        have ho := HK.out.own
        rw [show (addU f1.bu f2.bu).take f1.bu.length = addU f1.bu f2.bu from List.take_of_length_le (by simp [addU]; omega)] at ho
        exact own_part ho hE (fun q hq => by simpa using own_off ho HK.out.res (by decide) q hq)
      repeat (first | (with_reducible exact Part.refl _ _) | refine Part.set ?_ (by simp) _)
theorem refMerge_y3a (hA : Ext .u64 w A f1.bu) (hB : Ext .u64 w B f2.bu) (hl1 : f1.bu.length ≤ 17592186044416) (h01 : ∀ (j : Nat) (x : Int), f1.bu[j]? = some x → 0 ≤ x) (h02 : ∀ (j : Nat) (x : Int), f2.bu[j]? = some x → 0 ≤ x) (hw1 : checkS l h d f1 = 0) (hw2 : checkS l h d f2 = 0) (hb : 0 ≤ f1.le) (hc : f2.le < 0) (he : f1.gr < f2.gr) :
    Calls Try.prog 26 #[.agg #[.int .i64 l, .int .i64 h, .int .i64 d], .agg #[.int .u64 f1.c, .int .u64 f1.su, .int .i64 f1.le, .int .i64 f1.gr, .slice A f1.bu.length c], .agg #[.int .u64 f2.c, .int .u64 f2.su, .int .i64 f2.le, .int .i64 f2.gr, .slice B f2.bu.length c']] w (RefMerged w f1 f2) := by
  obtain ⟨i0, hi, hz0, hz1, hz2⟩ := info_parts info29
  have HAW := Lib.hid hA
  have HBW := Lib.hid hB
  have HLW := Lib.hid hl1
  have hlen : f1.bu.length = f2.bu.length := by rw [(check_len hw1).2, (check_len hw2).2]
  have hl2 : f2.bu.length ≤ 17592186044416 := by omega
  have hl1 : f1.bu.length ≤ 17592186044416 := by omega
  have HLN := Lib.hid hlen
  have HM : Hid (lem f1.le f2.le = f1.le) := Lib.hid (by unfold lem; rw [if_neg (by omega)])
  have HG : Hid (max f1.gr f2.gr = f2.gr) := Lib.hid (by omega)
  have hb0 : Below w.heap.size w ((((w.alloc (.cells #[.int .i64 l, .int .i64 h, .int .i64 d] 23)).alloc (.cells #[.int .u64 f1.c, .int .u64 f1.su, .int .i64 f1.le, .int .i64 f1.gr, .slice A f1.bu.length c] 44)).alloc (.cells #[.int .u64 f2.c, .int .u64 f2.su, .int .i64 f2.le, .int .i64 f2.gr, .slice B f2.bu.length c'] 44)).alloc (.cells #[.int .u64 0, .int .u64 0, .int .i64 0, .int .i64 0, .slice none 0 0] 44)) := by repeat (first | (with_reducible exact Below.refl _ _) | refine Below.alloc ?_ (by simp; try omega) _)
  have HB0 := Lib.hid hb0
  have HA := Lib.hid (hA.on hb0)
  have HB := Lib.hid (hB.on hb0)
  have H01 := Lib.hid h01
  have H02 := Lib.hid h02
  have HR0 : Hid (Row ((((w.alloc (.cells #[.int .i64 l, .int .i64 h, .int .i64 d] 23)).alloc (.cells #[.int .u64 f1.c, .int .u64 f1.su, .int .i64 f1.le, .int .i64 f1.gr, .slice A f1.bu.length c] 44)).alloc (.cells #[.int .u64 f2.c, .int .u64 f2.su, .int .i64 f2.le, .int .i64 f2.gr, .slice B f2.bu.length c'] 44)).alloc (.cells #[.int .u64 0, .int .u64 0, .int .i64 0, .int .i64 0, .slice none 0 0] 44)) w.heap.size 23 [.int .i64 l, .int .i64 h, .int .i64 d]) := Lib.hid ((((Row.new w _ _).alloc _).alloc _).alloc _)
  have HR1 : Hid (Row ((((w.alloc (.cells #[.int .i64 l, .int .i64 h, .int .i64 d] 23)).alloc (.cells #[.int .u64 f1.c, .int .u64 f1.su, .int .i64 f1.le, .int .i64 f1.gr, .slice A f1.bu.length c] 44)).alloc (.cells #[.int .u64 f2.c, .int .u64 f2.su, .int .i64 f2.le, .int .i64 f2.gr, .slice B f2.bu.length c'] 44)).alloc (.cells #[.int .u64 0, .int .u64 0, .int .i64 0, .int .i64 0, .slice none 0 0] 44)) (w.heap.size + 1) 44 [.int .u64 f1.c, .int .u64 f1.su, .int .i64 f1.le, .int .i64 f1.gr, .slice A f1.bu.length c]) := Lib.hid (((Row.at_ (w := w.alloc _) (by simp)).alloc _).alloc _)
  have HR2 : Hid (Row ((((w.alloc (.cells #[.int .i64 l, .int .i64 h, .int .i64 d] 23)).alloc (.cells #[.int .u64 f1.c, .int .u64 f1.su, .int .i64 f1.le, .int .i64 f1.gr, .slice A f1.bu.length c] 44)).alloc (.cells #[.int .u64 f2.c, .int .u64 f2.su, .int .i64 f2.le, .int .i64 f2.gr, .slice B f2.bu.length c'] 44)).alloc (.cells #[.int .u64 0, .int .u64 0, .int .i64 0, .int .i64 0, .slice none 0 0] 44)) (w.heap.size + 1 + 1) 44 [.int .u64 f2.c, .int .u64 f2.su, .int .i64 f2.le, .int .i64 f2.gr, .slice B f2.bu.length c']) := Lib.hid ((Row.at_ (w := (w.alloc _).alloc _) (by simp)).alloc _)
  have HR3 : Hid (Row ((((w.alloc (.cells #[.int .i64 l, .int .i64 h, .int .i64 d] 23)).alloc (.cells #[.int .u64 f1.c, .int .u64 f1.su, .int .i64 f1.le, .int .i64 f1.gr, .slice A f1.bu.length c] 44)).alloc (.cells #[.int .u64 f2.c, .int .u64 f2.su, .int .i64 f2.le, .int .i64 f2.gr, .slice B f2.bu.length c'] 44)).alloc (.cells #[.int .u64 0, .int .u64 0, .int .i64 0, .int .i64 0, .slice none 0 0] 44)) (w.heap.size + 1 + 1 + 1) 44 [.int .u64 0, .int .u64 0, .int .i64 0, .int .i64 0, .slice none 0 0]) := Lib.hid (Row.at_ (w := ((w.alloc _).alloc _).alloc _) (by simp))
  clear hA hB hb0 h01 h02
  have K1 : Hid (checkP l h d f1.bu f1.c f1.su f1.le f1.gr = 0) := Lib.hid hw1
  have K2 : Hid (checkP l h d f2.bu f2.c f2.su f2.le f2.gr = 0) := Lib.hid hw2
  clear hw1 hw2 hlen
  go_enter Try.func26, Try.ntmps26
  go_wp2_with (first | (go_at_call 28; (with_reducible refine (refCheck_any (xs := f1.bu) HA.out hl1 H01.out).mono ?_); rw [K1.out]; rintro e w4 ⟨rfl, hb⟩; have PA1 := Lib.hid (HA.out.on hb); have PB1 := Lib.hid (HB.out.on hb); have LB1 := Lib.hid (HB0.out.trans (hb.mono HB0.out.size)); have Q01 := Lib.hid (HR0.out.below hb HR0.out.lt); have Q11 := Lib.hid (HR1.out.below hb HR1.out.lt); have Q21 := Lib.hid (HR2.out.below hb HR2.out.lt); have Q31 := Lib.hid (HR3.out.below hb HR3.out.lt); clear hb; have p0 := Q01.out.cell 0; have p1 := Q01.out.cell 1; have p2 := Q01.out.cell 2; obtain ⟨q0, q1, q2, q3, q4⟩ := Q11.out.five; obtain ⟨r0, r1, r2, r3, r4⟩ := Q21.out.five; obtain ⟨t0, t1, t2, t3, t4⟩ := Q31.out.five; have ql := Q11.out.lt; have rl := Q21.out.lt; have tl := Q31.out.lt; have tf := Q31.out.free) | (go_at_call 28; (with_reducible refine (refCheck_any (xs := f2.bu) PB1.out hl2 H02.out).mono ?_); rw [K2.out]; rintro e w5 ⟨rfl, hb⟩; have PA2 := Lib.hid (PA1.out.on hb); have PB2 := Lib.hid (PB1.out.on hb); have LB2 := Lib.hid (LB1.out.trans (hb.mono LB1.out.size)); have Q02 := Lib.hid (Q01.out.below hb Q01.out.lt); have Q12 := Lib.hid (Q11.out.below hb Q11.out.lt); have Q22 := Lib.hid (Q21.out.below hb Q21.out.lt); have Q32 := Lib.hid (Q31.out.below hb Q31.out.lt); clear hb; have p0 := Q02.out.cell 0; have p1 := Q02.out.cell 1; have p2 := Q02.out.cell 2; obtain ⟨q0, q1, q2, q3, q4⟩ := Q12.out.five; obtain ⟨r0, r1, r2, r3, r4⟩ := Q22.out.five; obtain ⟨t0, t1, t2, t3, t4⟩ := Q32.out.five; have ql := Q12.out.lt; have rl := Q22.out.lt; have tl := Q32.out.lt; have tf := Q32.out.free))
  go_loopw [10] (fun i wr => ∃ (k : Nat) (v : Value), k ≤ f1.bu.length ∧ i = .int .i64 k ∧ RefMid w f1 f2 A B c c' f1.le f2.gr w5.heap.size v k wr) (fun i _ => f1.bu.length - (intOf i).toNat)
  case atStart => exact ⟨0, _, Nat.zero_le _, rfl, mids_start Q12.out Q22.out Q32.out LB2.out⟩
  case round =>
    obtain ⟨k, v, hk, rfl, hK⟩ := hrel
    have HK := Lib.hid hK
    obtain ⟨q0, q1, q2, q3, q4⟩ := hK.x.five
    obtain ⟨r0, r1, r2, r3, r4⟩ := hK.y.five
    obtain ⟨e0, e1, e2, e3, e4⟩ := hK.box.five
    have ql := hK.x.lt
    have rl := hK.y.lt
    have el := hK.box.lt
    have ef := hK.box.free
    clear hK
    by_cases hlt : k < f1.bu.length
    · obtain ⟨x, hx⟩ : ∃ x, f1.bu[k]? = some x := ⟨f1.bu[k], List.getElem?_eq_getElem hlt⟩
      obtain ⟨y, hy⟩ : ∃ y, f2.bu[k]? = some y := ⟨f2.bu[k]'(by have := HLN.out; omega), List.getElem?_eq_getElem (by have := HLN.out; omega)⟩
      obtain ⟨b1, o1, hA1, hb1x, _⟩ := HAW.out k x hx
      obtain ⟨b1', o1', hA1', _, hcx⟩ := (HAW.out.on HK.out.low) k x hx
      subst hA1
      cases hA1'
      obtain ⟨b2, o2, hB1, hb2x, _⟩ := HBW.out k y hy
      obtain ⟨b2', o2', hB1', _, hcy⟩ := (HBW.out.on HK.out.low) k y hy
      subst hB1
      cases hB1'
      have HT := Lib.hid (addU_snoc hx hy)
      have H3 : Hid (k + 1 ≤ maxLen) := Lib.hid (by unfold maxLen; have := HLW.out; omega)
      have H4 : Hid ((k + 1) * 8 ≤ 140737488355328) := Lib.hid (by have := HLW.out; omega)
      have H5 : Hid (w.heap.size ≤ (wr.alloc (.cells #[.int .u64 (IntKind.u64.wrap (x + y))] 38)).heap.size) := Lib.hid (by have := HK.out.low.size; simp; omega)
      have hlt' : (k : Int) < (f1.bu.length : Int) := by omega
      have hlt2 : (k : Int) < (f2.bu.length : Int) := by have := HLN.out; omega
      clear hx hy
      obtain ⟨b1x, b2x⟩ : b1 < w.heap.size ∧ b2 < w.heap.size := ⟨hb1x, hb2x⟩
      have HC1 := Lib.hid hcx
      have bx1 : b1 < wr.heap.size := Nat.lt_of_lt_of_le hb1x HK.out.low.size
      have bx2 : b2 < wr.heap.size := Nat.lt_of_lt_of_le hb2x HK.out.low.size
      have hbA : Below wr.heap.size wr (wr.alloc (.cells #[.int .u64 (IntKind.u64.wrap (x + y))] 38)) := (Below.refl _ _).alloc (Nat.le_refl _) _
      have y1 : wr.drew.cell? ⟨w.heap.size + 1, 4, none⟩ = some (.slice (some ⟨b1, o1, none⟩) f1.bu.length c) := q4
      have y2 : wr.drew.cell? ⟨w.heap.size + 1 + 1, 4, none⟩ = some (.slice (some ⟨b2, o2, none⟩) f2.bu.length c') := r4
      have y3 : wr.drew.cell? ⟨w5.heap.size, 4, none⟩ = some v := e4
      have y4 : wr.drew.cell? ⟨b1, o1 + k, none⟩ = some (.int .u64 x) := hcx
      have y5 : wr.drew.cell? ⟨b2, o2 + k, none⟩ = some (.int .u64 y) := hcy
      have z1 : (wr.alloc (.cells #[.int .u64 (IntKind.u64.wrap (x + y))] 38)).drew.cell? ⟨w.heap.size + 1, 4, none⟩ = some (.slice (some ⟨b1, o1, none⟩) f1.bu.length c) := (hbA.cell (p := ⟨w.heap.size + 1, 4, none⟩) ql).trans q4
      have z2 : (wr.alloc (.cells #[.int .u64 (IntKind.u64.wrap (x + y))] 38)).drew.cell? ⟨w.heap.size + 1 + 1, 4, none⟩ = some (.slice (some ⟨b2, o2, none⟩) f2.bu.length c') := (hbA.cell (p := ⟨w.heap.size + 1 + 1, 4, none⟩) rl).trans r4
      have z3 : (wr.alloc (.cells #[.int .u64 (IntKind.u64.wrap (x + y))] 38)).drew.cell? ⟨w5.heap.size, 4, none⟩ = some v := (hbA.cell (p := ⟨w5.heap.size, 4, none⟩) el).trans e4
      have z4 : (wr.alloc (.cells #[.int .u64 (IntKind.u64.wrap (x + y))] 38)).drew.cell? ⟨b1, o1 + k, none⟩ = some (.int .u64 x) := (hbA.cell (p := ⟨b1, o1 + k, none⟩) bx1).trans hcx
      have z5 : (wr.alloc (.cells #[.int .u64 (IntKind.u64.wrap (x + y))] 38)).drew.cell? ⟨b2, o2 + k, none⟩ = some (.int .u64 y) := (hbA.cell (p := ⟨b2, o2 + k, none⟩) bx2).trans hcy
      clear hbA
      have HC2 := Lib.hid hcy
      go_wp2_with fail
      refine wp_region_held_drew (S := (fun w' => w'.cell? ⟨w.heap.size + 1, 4, none⟩ = some (.slice (some ⟨b1, o1, none⟩) f1.bu.length c) ∧ w'.cell? ⟨w.heap.size + 1 + 1, 4, none⟩ = some (.slice (some ⟨b2, o2, none⟩) f2.bu.length c') ∧ w'.cell? ⟨b1, o1 + k, none⟩ = some (.int .u64 x) ∧ w'.cell? ⟨b2, o2 + k, none⟩ = some (.int .u64 y))) (by kernel_rfl) ?_ (fun hHeld0 => ?_)
      · try dsimp only
        exact ⟨y1, y2, y4, y5⟩
      refine wpAnyH_take (i := 0) (oi := { dst := some 71, op := Op.fieldAddr 44 (Operand.tmp 9) 4, type := 0, pos := "ref.go:217", after := #[], guard := none }) (v := ?_) rfl (by kernel_rfl) (by kernel_rfl) (by kernel_rfl) (fun _ _ _ h => h) (Or.inl ⟨by rfl, ?_⟩) (by assumption) ?_
      rotate_left
      · intro wq hSq
        try dsimp only at hSq
        go_simp
        try (with_reducible rfl)
      try simp only [Act.put, List.setIfInBounds_toArray, List.set_cons_zero, List.set_cons_succ]
      refine wpAnyH_take (i := 2) (oi := { dst := some 73, op := Op.fieldAddr 44 (Operand.tmp 4) 4, type := 0, pos := "ref.go:217", after := #[], guard := none }) (v := ?_) rfl (by kernel_rfl) (by kernel_rfl) (by kernel_rfl) (fun _ _ _ h => h) (Or.inl ⟨by rfl, ?_⟩) (by assumption) ?_
      rotate_left
      · intro wq hSq
        try dsimp only at hSq
        go_simp
        try (with_reducible rfl)
      try simp only [Act.put, List.setIfInBounds_toArray, List.set_cons_zero, List.set_cons_succ]
      refine wpAnyH_take (i := 3) (oi := { dst := some 74, op := Op.load 42 (Operand.tmp 73), type := 42, pos := "ref.go:217", after := #[{ on := 2, ground := Ground.data }], guard := none }) (v := ?_) rfl (by kernel_rfl) (by kernel_rfl) (by kernel_rfl) (fun _ _ _ h => h) (Or.inl ⟨by rfl, ?_⟩) (by assumption) ?_
      rotate_left
      · intro wq hSq
        try dsimp only at hSq
        go_simp
        try (with_reducible rfl)
      try simp only [Act.put, List.setIfInBounds_toArray, List.set_cons_zero, List.set_cons_succ]
      refine wpAnyH_take (i := 4) (oi := { dst := some 75, op := Op.move (Operand.tmp 10), type := 3, pos := "ref.go:217", after := #[], guard := none }) (v := ?_) rfl (by kernel_rfl) (by kernel_rfl) (by kernel_rfl) (fun _ _ _ h => h) (Or.inl ⟨by rfl, ?_⟩) (by assumption) ?_
      rotate_left
      · intro wq hSq
        try dsimp only at hSq
        go_simp
        try (with_reducible rfl)
      try simp only [Act.put, List.setIfInBounds_toArray, List.set_cons_zero, List.set_cons_succ]
      refine wpAnyH_take (i := 5) (oi := { dst := some 76, op := Op.indexAddr 42 (Operand.tmp 74) (Operand.tmp 75), type := 0, pos := "ref.go:217", after := #[{ on := 3, ground := Ground.data }, { on := 4, ground := Ground.data }], guard := none }) (v := ?_) rfl (by kernel_rfl) (by kernel_rfl) (by kernel_rfl) (fun _ _ _ h => h) (Or.inl ⟨by rfl, ?_⟩) (by assumption) ?_
      rotate_left
      · intro wq hSq
        try dsimp only at hSq
        go_simp
        try (with_reducible rfl)
      try simp only [Act.put, List.setIfInBounds_toArray, List.set_cons_zero, List.set_cons_succ]
      refine wpAnyH_take (i := 6) (oi := { dst := some 77, op := Op.load 38 (Operand.tmp 76), type := 38, pos := "ref.go:217", after := #[{ on := 5, ground := Ground.data }], guard := none }) (v := ?_) rfl (by kernel_rfl) (by kernel_rfl) (by kernel_rfl) (fun _ _ _ h => h) (Or.inl ⟨by rfl, ?_⟩) (by assumption) ?_
      rotate_left
      · intro wq hSq
        try dsimp only at hSq
        go_simp
        try (with_reducible rfl)
      try simp only [Act.put, List.setIfInBounds_toArray, List.set_cons_zero, List.set_cons_succ]
      refine wpAnyH_take (i := 7) (oi := { dst := some 78, op := Op.fieldAddr 44 (Operand.tmp 5) 4, type := 0, pos := "ref.go:217", after := #[], guard := none }) (v := ?_) rfl (by kernel_rfl) (by kernel_rfl) (by kernel_rfl) (fun _ _ _ h => h) (Or.inl ⟨by rfl, ?_⟩) (by assumption) ?_
      rotate_left
      · intro wq hSq
        try dsimp only at hSq
        go_simp
        try (with_reducible rfl)
      try simp only [Act.put, List.setIfInBounds_toArray, List.set_cons_zero, List.set_cons_succ]
      refine wpAnyH_take (i := 8) (oi := { dst := some 79, op := Op.load 42 (Operand.tmp 78), type := 42, pos := "ref.go:217", after := #[{ on := 7, ground := Ground.data }], guard := none }) (v := ?_) rfl (by kernel_rfl) (by kernel_rfl) (by kernel_rfl) (fun _ _ _ h => h) (Or.inl ⟨by rfl, ?_⟩) (by assumption) ?_
      rotate_left
      · intro wq hSq
        try dsimp only at hSq
        go_simp
        try (with_reducible rfl)
      try simp only [Act.put, List.setIfInBounds_toArray, List.set_cons_zero, List.set_cons_succ]
      refine wpAnyH_take (i := 9) (oi := { dst := some 80, op := Op.move (Operand.tmp 10), type := 3, pos := "ref.go:217", after := #[], guard := none }) (v := ?_) rfl (by kernel_rfl) (by kernel_rfl) (by kernel_rfl) (fun _ _ _ h => h) (Or.inl ⟨by rfl, ?_⟩) (by assumption) ?_
      rotate_left
      · intro wq hSq
        try dsimp only at hSq
        go_simp
        try (with_reducible rfl)
      try simp only [Act.put, List.setIfInBounds_toArray, List.set_cons_zero, List.set_cons_succ]
      refine wpAnyH_take (i := 10) (oi := { dst := some 81, op := Op.indexAddr 42 (Operand.tmp 79) (Operand.tmp 80), type := 0, pos := "ref.go:217", after := #[{ on := 8, ground := Ground.data }, { on := 9, ground := Ground.data }], guard := none }) (v := ?_) rfl (by kernel_rfl) (by kernel_rfl) (by kernel_rfl) (fun _ _ _ h => h) (Or.inl ⟨by rfl, ?_⟩) (by assumption) ?_
      rotate_left
      · intro wq hSq
        try dsimp only at hSq
        go_simp
        try (with_reducible rfl)
      try simp only [Act.put, List.setIfInBounds_toArray, List.set_cons_zero, List.set_cons_succ]
      refine wpAnyH_take (i := 11) (oi := { dst := some 82, op := Op.load 38 (Operand.tmp 81), type := 38, pos := "ref.go:217", after := #[{ on := 10, ground := Ground.data }], guard := none }) (v := ?_) rfl (by kernel_rfl) (by kernel_rfl) (by kernel_rfl) (fun _ _ _ h => h) (Or.inl ⟨by rfl, ?_⟩) (by assumption) ?_
      rotate_left
      · intro wq hSq
        try dsimp only at hSq
        go_simp
        try (with_reducible rfl)
      try simp only [Act.put, List.setIfInBounds_toArray, List.set_cons_zero, List.set_cons_succ]
      refine wpAnyH_take (i := 12) (oi := { dst := some 83, op := Op.binOp BinOp.add 38 (Operand.tmp 77) (Operand.tmp 82) 38, type := 38, pos := "ref.go:217", after := #[{ on := 6, ground := Ground.data }, { on := 11, ground := Ground.data }], guard := none }) (v := ?_) rfl (by kernel_rfl) (by kernel_rfl) (by kernel_rfl) (fun _ _ _ h => h) (Or.inl ⟨by rfl, ?_⟩) (by assumption) ?_
      rotate_left
      · intro wq hSq
        try dsimp only at hSq
        go_simp
        try (with_reducible rfl)
      try simp only [Act.put, List.setIfInBounds_toArray, List.set_cons_zero, List.set_cons_succ]
      refine wpAnyH_ready (rs := [1, 13]) (by kernel_rfl) (by simp) ?_
      refine AllReadyH.cons (o := { dst := some 72, op := Op.load 42 (Operand.tmp 71), type := 42, pos := "ref.go:217", after := #[{ on := 0, ground := Ground.data }], guard := none }) rfl (fun K hK => ?_) (AllReadyH.cons (o := { dst := some 84, op := Op.buildSlice 42 1 #[(0, Operand.tmp 83)], type := 42, pos := "ref.go:217", after := #[{ on := 12, ground := Ground.data }], guard := none }) rfl (fun K hK => ?_) AllReadyH.nil)
      · go_simp
        refine hK.out _ _ (by exact ⟨y1, y2, y4, y5⟩) (fun hHeldA => ?_)
        clear hK K hHeld0
        try simp only [Act.put, List.setIfInBounds_toArray, List.set_cons_zero, List.set_cons_succ]
        refine wpAnyH_ready (rs := [13]) (by kernel_rfl) (by simp) ?_
        refine AllReadyH.cons (o := { dst := some 84, op := Op.buildSlice 42 1 #[(0, Operand.tmp 83)], type := 42, pos := "ref.go:217", after := #[{ on := 12, ground := Ground.data }], guard := none }) rfl (fun K hK => ?_) AllReadyH.nil
        go_simp
        refine hK.out _ _ (by exact ⟨z1, z2, z4, z5⟩) (fun hHeldB => ?_)
        clear hK K hHeldA
        try simp only [Act.put, List.setIfInBounds_toArray, List.set_cons_zero, List.set_cons_succ]
        refine wpAnyH_ready (rs := [14]) (by kernel_rfl) (by simp) ?_
        refine AllReadyH.cons (o := { dst := some 85, op := Op.call { callee := Callee.builtin Builtin.append, args := #[Operand.tmp 72, Operand.tmp 84], argTypes := #[42, 42] }, type := 42, pos := "ref.go:217", after := #[{ on := 1, ground := Ground.data }, { on := 13, ground := Ground.data }], guard := none }) rfl (fun K hK => ?_) AllReadyH.nil
        refine step_append_lies _ (by rfl) _ _ _ (by rfl) w.heap.size 38 i0 _ 1 8 Try.underlying42 hi hz0 hz1 hz2 rfl (by omega) _ k (u64s ((addU f1.bu f2.bu).take k)) (by rfl) (own_part HK.out.own (Part.of_below (by first | exact ((Below.refl _ _).alloc (Nat.le_refl _) _).drew | exact ((Below.refl _ _).drew).alloc (Nat.le_refl _) _ | exact (Below.refl _ _).alloc (Nat.le_refl _) _) (Nat.le_refl _) []) (by simp)) ⟨wr.heap.size, 0, none⟩ 1 1 [.int .u64 (IntKind.u64.wrap (x + y))] (by rfl) (by rfl) (World.news_of_block (cs := #[.int .u64 (IntKind.u64.wrap (x + y))]) (t := 38) (fr := (0, 0)) (heap_alloc_new wr _)) (by simp [Value.oneCell']) (by omega) H3.out H4.out (by have := H5.out; simp; omega) (wr.heap.size + 1) (by simp) ?_; intro gg gcap w6 hown6 hgr6 hat6 hlt6; have HK1 := Lib.hid (HK.out.grow (by first | exact ((Below.refl _ _).alloc (Nat.le_refl _) _).drew | exact ((Below.refl _ _).drew).alloc (Nat.le_refl _) _ | exact (Below.refl _ _).alloc (Nat.le_refl _) _) HT.out hown6 hgr6); have v1 : w6.cell? ⟨w.heap.size + 1, 4, none⟩ = some (.slice (some ⟨b1, o1, none⟩) f1.bu.length c) := HK1.out.1.1.cell 4; have v2 : w6.cell? ⟨w.heap.size + 1 + 1, 4, none⟩ = some (.slice (some ⟨b2, o2, none⟩) f2.bu.length c') := HK1.out.1.2.1.cell 4; have v3 : w6.cell? ⟨w5.heap.size, 4, none⟩ = some v := HK1.out.1.2.2.1.cell 4; have v4 : w6.cell? ⟨b1, o1 + k, none⟩ = some (.int .u64 x) := HK1.out.1.2.2.2 ⟨b1, o1 + k, none⟩ _ b1x HC1.out; have v5 : w6.cell? ⟨b2, o2 + k, none⟩ = some (.int .u64 y) := HK1.out.1.2.2.2 ⟨b2, o2 + k, none⟩ _ b2x HC2.out; have gl := HK1.out.1.2.2.1.lt; have gf := HK1.out.1.2.2.1.free; have nO1 : w5.heap.size ≠ w.heap.size + 1 := (by have := HK.out.lo; omega); have nO2 : w5.heap.size ≠ w.heap.size + 1 + 1 := (by have := HK.out.lo; omega); have nO3 : w5.heap.size ≠ b1 := (by have := HK.out.lo; omega); have nO4 : w5.heap.size ≠ b2 := (by have := HK.out.lo; omega); have s1 := (World.cell?_setCell_far w6 ⟨w5.heap.size, 4, none⟩ ⟨w.heap.size + 1, 4, none⟩ (.slice (some ⟨gg, 0, none⟩) (k + 1) gcap) nO1).trans v1; have s2 := (World.cell?_setCell_far w6 ⟨w5.heap.size, 4, none⟩ ⟨w.heap.size + 1 + 1, 4, none⟩ (.slice (some ⟨gg, 0, none⟩) (k + 1) gcap) nO2).trans v2; have s4 := (World.cell?_setCell_far w6 ⟨w5.heap.size, 4, none⟩ ⟨b1, o1 + k, none⟩ (.slice (some ⟨gg, 0, none⟩) (k + 1) gcap) nO3).trans v4; have s5 := (World.cell?_setCell_far w6 ⟨w5.heap.size, 4, none⟩ ⟨b2, o2 + k, none⟩ (.slice (some ⟨gg, 0, none⟩) (k + 1) gcap) nO4).trans v5; clear hown6 hgr6 hat6
        refine hK.out _ _ (by exact ⟨v1, v2, v4, v5⟩) (fun hHeldF => ?_)
        clear hK K hHeldB
        try simp only [Act.put, List.setIfInBounds_toArray, List.set_cons_zero, List.set_cons_succ]
        refine wpAnyH_take (i := 15) (oi := { dst := some 86, op := Op.fieldAddr 44 (Operand.tmp 9) 4, type := 0, pos := "ref.go:217", after := #[{ on := 0, ground := Ground.phase }, { on := 1, ground := Ground.phase }, { on := 2, ground := Ground.phase }, { on := 3, ground := Ground.phase }, { on := 4, ground := Ground.phase }, { on := 5, ground := Ground.phase }, { on := 6, ground := Ground.phase }, { on := 7, ground := Ground.phase }, { on := 8, ground := Ground.phase }, { on := 9, ground := Ground.phase }, { on := 10, ground := Ground.phase }, { on := 11, ground := Ground.phase }, { on := 12, ground := Ground.phase }, { on := 13, ground := Ground.phase }, { on := 14, ground := Ground.phase }], guard := none }) (v := ?_) rfl (by kernel_rfl) (by kernel_rfl) (by kernel_rfl) (fun _ _ _ h => h) (Or.inl ⟨by rfl, ?_⟩) (by assumption) ?_
        rotate_left
        · intro wq hSq
          try dsimp only at hSq
          go_simp
          try (with_reducible rfl)
        try simp only [Act.put, List.setIfInBounds_toArray, List.set_cons_zero, List.set_cons_succ]
        refine wpAnyH_ready (rs := [16]) (by kernel_rfl) (by simp) ?_
        refine AllReadyH.cons (o := { dst := none, op := Op.store 42 (Operand.tmp 86) (Operand.tmp 85), type := 0, pos := "ref.go:217", after := #[{ on := 15, ground := Ground.data }, { on := 14, ground := Ground.data }, { on := 14, ground := Ground.chain }, { on := 0, ground := Ground.phase }, { on := 1, ground := Ground.phase }, { on := 2, ground := Ground.phase }, { on := 3, ground := Ground.phase }, { on := 4, ground := Ground.phase }, { on := 5, ground := Ground.phase }, { on := 6, ground := Ground.phase }, { on := 7, ground := Ground.phase }, { on := 8, ground := Ground.phase }, { on := 9, ground := Ground.phase }, { on := 10, ground := Ground.phase }, { on := 11, ground := Ground.phase }, { on := 12, ground := Ground.phase }, { on := 13, ground := Ground.phase }, { on := 14, ground := Ground.phase }], guard := none }) rfl (fun K hK => ?_) AllReadyH.nil
        go_simp
        refine hK.out _ _ (by exact ⟨s1, s2, s4, s5⟩) (fun hHeldG => ?_)
        clear hK K hHeldF
        try simp only [Act.put, List.setIfInBounds_toArray, List.set_cons_zero, List.set_cons_succ]
        refine wpAnyH_done (by kernel_rfl) ?_ _
        go_wp2_with fail
        go_roundw
        case rel => exact ⟨k + 1, _, by omega, by go_num, HK1.out.2⟩
        case measure => simp [intOf]; omega
      · go_simp
        refine hK.out _ _ (by exact ⟨z1, z2, z4, z5⟩) (fun hHeldA => ?_)
        clear hK K hHeld0
        try simp only [Act.put, List.setIfInBounds_toArray, List.set_cons_zero, List.set_cons_succ]
        refine wpAnyH_ready (rs := [1]) (by kernel_rfl) (by simp) ?_
        refine AllReadyH.cons (o := { dst := some 72, op := Op.load 42 (Operand.tmp 71), type := 42, pos := "ref.go:217", after := #[{ on := 0, ground := Ground.data }], guard := none }) rfl (fun K hK => ?_) AllReadyH.nil
        go_simp
        refine hK.out _ _ (by exact ⟨z1, z2, z4, z5⟩) (fun hHeldB => ?_)
        clear hK K hHeldA
        try simp only [Act.put, List.setIfInBounds_toArray, List.set_cons_zero, List.set_cons_succ]
        refine wpAnyH_ready (rs := [14]) (by kernel_rfl) (by simp) ?_
        refine AllReadyH.cons (o := { dst := some 85, op := Op.call { callee := Callee.builtin Builtin.append, args := #[Operand.tmp 72, Operand.tmp 84], argTypes := #[42, 42] }, type := 42, pos := "ref.go:217", after := #[{ on := 1, ground := Ground.data }, { on := 13, ground := Ground.data }], guard := none }) rfl (fun K hK => ?_) AllReadyH.nil
        refine step_append_lies _ (by rfl) _ _ _ (by rfl) w.heap.size 38 i0 _ 1 8 Try.underlying42 hi hz0 hz1 hz2 rfl (by omega) _ k (u64s ((addU f1.bu f2.bu).take k)) (by rfl) (own_part HK.out.own (Part.of_below (by first | exact ((Below.refl _ _).alloc (Nat.le_refl _) _).drew | exact ((Below.refl _ _).drew).alloc (Nat.le_refl _) _ | exact (Below.refl _ _).alloc (Nat.le_refl _) _) (Nat.le_refl _) []) (by simp)) ⟨wr.heap.size, 0, none⟩ 1 1 [.int .u64 (IntKind.u64.wrap (x + y))] (by rfl) (by rfl) (World.news_of_block (cs := #[.int .u64 (IntKind.u64.wrap (x + y))]) (t := 38) (fr := (0, 0)) (heap_alloc_new wr _)) (by simp [Value.oneCell']) (by omega) H3.out H4.out (by have := H5.out; simp; omega) (wr.heap.size + 1) (by simp) ?_; intro gg gcap w6 hown6 hgr6 hat6 hlt6; have HK1 := Lib.hid (HK.out.grow (by first | exact ((Below.refl _ _).alloc (Nat.le_refl _) _).drew | exact ((Below.refl _ _).drew).alloc (Nat.le_refl _) _ | exact (Below.refl _ _).alloc (Nat.le_refl _) _) HT.out hown6 hgr6); have v1 : w6.cell? ⟨w.heap.size + 1, 4, none⟩ = some (.slice (some ⟨b1, o1, none⟩) f1.bu.length c) := HK1.out.1.1.cell 4; have v2 : w6.cell? ⟨w.heap.size + 1 + 1, 4, none⟩ = some (.slice (some ⟨b2, o2, none⟩) f2.bu.length c') := HK1.out.1.2.1.cell 4; have v3 : w6.cell? ⟨w5.heap.size, 4, none⟩ = some v := HK1.out.1.2.2.1.cell 4; have v4 : w6.cell? ⟨b1, o1 + k, none⟩ = some (.int .u64 x) := HK1.out.1.2.2.2 ⟨b1, o1 + k, none⟩ _ b1x HC1.out; have v5 : w6.cell? ⟨b2, o2 + k, none⟩ = some (.int .u64 y) := HK1.out.1.2.2.2 ⟨b2, o2 + k, none⟩ _ b2x HC2.out; have gl := HK1.out.1.2.2.1.lt; have gf := HK1.out.1.2.2.1.free; have nO1 : w5.heap.size ≠ w.heap.size + 1 := (by have := HK.out.lo; omega); have nO2 : w5.heap.size ≠ w.heap.size + 1 + 1 := (by have := HK.out.lo; omega); have nO3 : w5.heap.size ≠ b1 := (by have := HK.out.lo; omega); have nO4 : w5.heap.size ≠ b2 := (by have := HK.out.lo; omega); have s1 := (World.cell?_setCell_far w6 ⟨w5.heap.size, 4, none⟩ ⟨w.heap.size + 1, 4, none⟩ (.slice (some ⟨gg, 0, none⟩) (k + 1) gcap) nO1).trans v1; have s2 := (World.cell?_setCell_far w6 ⟨w5.heap.size, 4, none⟩ ⟨w.heap.size + 1 + 1, 4, none⟩ (.slice (some ⟨gg, 0, none⟩) (k + 1) gcap) nO2).trans v2; have s4 := (World.cell?_setCell_far w6 ⟨w5.heap.size, 4, none⟩ ⟨b1, o1 + k, none⟩ (.slice (some ⟨gg, 0, none⟩) (k + 1) gcap) nO3).trans v4; have s5 := (World.cell?_setCell_far w6 ⟨w5.heap.size, 4, none⟩ ⟨b2, o2 + k, none⟩ (.slice (some ⟨gg, 0, none⟩) (k + 1) gcap) nO4).trans v5; clear hown6 hgr6 hat6
        refine hK.out _ _ (by exact ⟨v1, v2, v4, v5⟩) (fun hHeldF => ?_)
        clear hK K hHeldB
        try simp only [Act.put, List.setIfInBounds_toArray, List.set_cons_zero, List.set_cons_succ]
        refine wpAnyH_take (i := 15) (oi := { dst := some 86, op := Op.fieldAddr 44 (Operand.tmp 9) 4, type := 0, pos := "ref.go:217", after := #[{ on := 0, ground := Ground.phase }, { on := 1, ground := Ground.phase }, { on := 2, ground := Ground.phase }, { on := 3, ground := Ground.phase }, { on := 4, ground := Ground.phase }, { on := 5, ground := Ground.phase }, { on := 6, ground := Ground.phase }, { on := 7, ground := Ground.phase }, { on := 8, ground := Ground.phase }, { on := 9, ground := Ground.phase }, { on := 10, ground := Ground.phase }, { on := 11, ground := Ground.phase }, { on := 12, ground := Ground.phase }, { on := 13, ground := Ground.phase }, { on := 14, ground := Ground.phase }], guard := none }) (v := ?_) rfl (by kernel_rfl) (by kernel_rfl) (by kernel_rfl) (fun _ _ _ h => h) (Or.inl ⟨by rfl, ?_⟩) (by assumption) ?_
        rotate_left
        · intro wq hSq
          try dsimp only at hSq
          go_simp
          try (with_reducible rfl)
        try simp only [Act.put, List.setIfInBounds_toArray, List.set_cons_zero, List.set_cons_succ]
        refine wpAnyH_ready (rs := [16]) (by kernel_rfl) (by simp) ?_
        refine AllReadyH.cons (o := { dst := none, op := Op.store 42 (Operand.tmp 86) (Operand.tmp 85), type := 0, pos := "ref.go:217", after := #[{ on := 15, ground := Ground.data }, { on := 14, ground := Ground.data }, { on := 14, ground := Ground.chain }, { on := 0, ground := Ground.phase }, { on := 1, ground := Ground.phase }, { on := 2, ground := Ground.phase }, { on := 3, ground := Ground.phase }, { on := 4, ground := Ground.phase }, { on := 5, ground := Ground.phase }, { on := 6, ground := Ground.phase }, { on := 7, ground := Ground.phase }, { on := 8, ground := Ground.phase }, { on := 9, ground := Ground.phase }, { on := 10, ground := Ground.phase }, { on := 11, ground := Ground.phase }, { on := 12, ground := Ground.phase }, { on := 13, ground := Ground.phase }, { on := 14, ground := Ground.phase }], guard := none }) rfl (fun K hK => ?_) AllReadyH.nil
        go_simp
        refine hK.out _ _ (by exact ⟨s1, s2, s4, s5⟩) (fun hHeldG => ?_)
        clear hK K hHeldF
        try simp only [Act.put, List.setIfInBounds_toArray, List.set_cons_zero, List.set_cons_succ]
        refine wpAnyH_done (by kernel_rfl) ?_ _
        go_wp2_with fail
        go_roundw
        case rel => exact ⟨k + 1, _, by omega, by go_num, HK1.out.2⟩
        case measure => simp [intOf]; omega
    · obtain rfl : k = f1.bu.length := by omega
      obtain ⟨t0, t1, t2, t3, t4⟩ := HK.out.res.five
      have tl := HK.out.res.lt
      have tf := HK.out.res.free
      obtain ⟨a5, c5, rfl⟩ := own_form HK.out.own
      go_wp2
      refine bodyPost_ret (v := .tuple #[.agg #[.int .u64 (IntKind.u64.wrap (f1.c + f2.c)), .int .u64 (IntKind.u64.wrap (f1.su + f2.su)), .int .i64 f1.le, .int .i64 f2.gr, .slice a5 f1.bu.length c5], .int .i64 0]) (by simp [results, Try.results26, go_sem, t0, t1, t2, t3, t4]) rfl ?_
      suffices hE : Part [w.heap.size + 1 + 1 + 1] wr _ from by
        refine ⟨a5, c5, by rw [HM.out, HG.out], ?_, HK.out.low.trans (hE.below HK.out.low.size (by simp; omega))⟩
        have ho := HK.out.own
        rw [show (addU f1.bu f2.bu).take f1.bu.length = addU f1.bu f2.bu from List.take_of_length_le (by simp [addU]; omega)] at ho
        exact own_part ho hE (fun q hq => by simpa using own_off ho HK.out.res (by decide) q hq)
      repeat (first | (with_reducible exact Part.refl _ _) | refine Part.set ?_ (by simp) _)
theorem refMerge_y3b (hA : Ext .u64 w A f1.bu) (hB : Ext .u64 w B f2.bu) (hl1 : f1.bu.length ≤ 17592186044416) (h01 : ∀ (j : Nat) (x : Int), f1.bu[j]? = some x → 0 ≤ x) (h02 : ∀ (j : Nat) (x : Int), f2.bu[j]? = some x → 0 ≤ x) (hw1 : checkS l h d f1 = 0) (hw2 : checkS l h d f2 = 0) (hb : 0 ≤ f1.le) (hc : f2.le < 0) (he : f2.gr ≤ f1.gr) :
    Calls Try.prog 26 #[.agg #[.int .i64 l, .int .i64 h, .int .i64 d], .agg #[.int .u64 f1.c, .int .u64 f1.su, .int .i64 f1.le, .int .i64 f1.gr, .slice A f1.bu.length c], .agg #[.int .u64 f2.c, .int .u64 f2.su, .int .i64 f2.le, .int .i64 f2.gr, .slice B f2.bu.length c']] w (RefMerged w f1 f2) := by
  obtain ⟨i0, hi, hz0, hz1, hz2⟩ := info_parts info29
  have HAW := Lib.hid hA
  have HBW := Lib.hid hB
  have HLW := Lib.hid hl1
  have hlen : f1.bu.length = f2.bu.length := by rw [(check_len hw1).2, (check_len hw2).2]
  have hl2 : f2.bu.length ≤ 17592186044416 := by omega
  have hl1 : f1.bu.length ≤ 17592186044416 := by omega
  have HLN := Lib.hid hlen
  have HM : Hid (lem f1.le f2.le = f1.le) := Lib.hid (by unfold lem; rw [if_neg (by omega)])
  have HG : Hid (max f1.gr f2.gr = f1.gr) := Lib.hid (by omega)
  have hb0 : Below w.heap.size w ((((w.alloc (.cells #[.int .i64 l, .int .i64 h, .int .i64 d] 23)).alloc (.cells #[.int .u64 f1.c, .int .u64 f1.su, .int .i64 f1.le, .int .i64 f1.gr, .slice A f1.bu.length c] 44)).alloc (.cells #[.int .u64 f2.c, .int .u64 f2.su, .int .i64 f2.le, .int .i64 f2.gr, .slice B f2.bu.length c'] 44)).alloc (.cells #[.int .u64 0, .int .u64 0, .int .i64 0, .int .i64 0, .slice none 0 0] 44)) := by repeat (first | (with_reducible exact Below.refl _ _) | refine Below.alloc ?_ (by simp; try omega) _)
  have HB0 := Lib.hid hb0
  have HA := Lib.hid (hA.on hb0)
  have HB := Lib.hid (hB.on hb0)
  have H01 := Lib.hid h01
  have H02 := Lib.hid h02
  have HR0 : Hid (Row ((((w.alloc (.cells #[.int .i64 l, .int .i64 h, .int .i64 d] 23)).alloc (.cells #[.int .u64 f1.c, .int .u64 f1.su, .int .i64 f1.le, .int .i64 f1.gr, .slice A f1.bu.length c] 44)).alloc (.cells #[.int .u64 f2.c, .int .u64 f2.su, .int .i64 f2.le, .int .i64 f2.gr, .slice B f2.bu.length c'] 44)).alloc (.cells #[.int .u64 0, .int .u64 0, .int .i64 0, .int .i64 0, .slice none 0 0] 44)) w.heap.size 23 [.int .i64 l, .int .i64 h, .int .i64 d]) := Lib.hid ((((Row.new w _ _).alloc _).alloc _).alloc _)
  have HR1 : Hid (Row ((((w.alloc (.cells #[.int .i64 l, .int .i64 h, .int .i64 d] 23)).alloc (.cells #[.int .u64 f1.c, .int .u64 f1.su, .int .i64 f1.le, .int .i64 f1.gr, .slice A f1.bu.length c] 44)).alloc (.cells #[.int .u64 f2.c, .int .u64 f2.su, .int .i64 f2.le, .int .i64 f2.gr, .slice B f2.bu.length c'] 44)).alloc (.cells #[.int .u64 0, .int .u64 0, .int .i64 0, .int .i64 0, .slice none 0 0] 44)) (w.heap.size + 1) 44 [.int .u64 f1.c, .int .u64 f1.su, .int .i64 f1.le, .int .i64 f1.gr, .slice A f1.bu.length c]) := Lib.hid (((Row.at_ (w := w.alloc _) (by simp)).alloc _).alloc _)
  have HR2 : Hid (Row ((((w.alloc (.cells #[.int .i64 l, .int .i64 h, .int .i64 d] 23)).alloc (.cells #[.int .u64 f1.c, .int .u64 f1.su, .int .i64 f1.le, .int .i64 f1.gr, .slice A f1.bu.length c] 44)).alloc (.cells #[.int .u64 f2.c, .int .u64 f2.su, .int .i64 f2.le, .int .i64 f2.gr, .slice B f2.bu.length c'] 44)).alloc (.cells #[.int .u64 0, .int .u64 0, .int .i64 0, .int .i64 0, .slice none 0 0] 44)) (w.heap.size + 1 + 1) 44 [.int .u64 f2.c, .int .u64 f2.su, .int .i64 f2.le, .int .i64 f2.gr, .slice B f2.bu.length c']) := Lib.hid ((Row.at_ (w := (w.alloc _).alloc _) (by simp)).alloc _)
  have HR3 : Hid (Row ((((w.alloc (.cells #[.int .i64 l, .int .i64 h, .int .i64 d] 23)).alloc (.cells #[.int .u64 f1.c, .int .u64 f1.su, .int .i64 f1.le, .int .i64 f1.gr, .slice A f1.bu.length c] 44)).alloc (.cells #[.int .u64 f2.c, .int .u64 f2.su, .int .i64 f2.le, .int .i64 f2.gr, .slice B f2.bu.length c'] 44)).alloc (.cells #[.int .u64 0, .int .u64 0, .int .i64 0, .int .i64 0, .slice none 0 0] 44)) (w.heap.size + 1 + 1 + 1) 44 [.int .u64 0, .int .u64 0, .int .i64 0, .int .i64 0, .slice none 0 0]) := Lib.hid (Row.at_ (w := ((w.alloc _).alloc _).alloc _) (by simp))
  clear hA hB hb0 h01 h02
  have K1 : Hid (checkP l h d f1.bu f1.c f1.su f1.le f1.gr = 0) := Lib.hid hw1
  have K2 : Hid (checkP l h d f2.bu f2.c f2.su f2.le f2.gr = 0) := Lib.hid hw2
  clear hw1 hw2 hlen
  go_enter Try.func26, Try.ntmps26
  go_wp2_with (first | (go_at_call 28; (with_reducible refine (refCheck_any (xs := f1.bu) HA.out hl1 H01.out).mono ?_); rw [K1.out]; rintro e w4 ⟨rfl, hb⟩; have PA1 := Lib.hid (HA.out.on hb); have PB1 := Lib.hid (HB.out.on hb); have LB1 := Lib.hid (HB0.out.trans (hb.mono HB0.out.size)); have Q01 := Lib.hid (HR0.out.below hb HR0.out.lt); have Q11 := Lib.hid (HR1.out.below hb HR1.out.lt); have Q21 := Lib.hid (HR2.out.below hb HR2.out.lt); have Q31 := Lib.hid (HR3.out.below hb HR3.out.lt); clear hb; have p0 := Q01.out.cell 0; have p1 := Q01.out.cell 1; have p2 := Q01.out.cell 2; obtain ⟨q0, q1, q2, q3, q4⟩ := Q11.out.five; obtain ⟨r0, r1, r2, r3, r4⟩ := Q21.out.five; obtain ⟨t0, t1, t2, t3, t4⟩ := Q31.out.five; have ql := Q11.out.lt; have rl := Q21.out.lt; have tl := Q31.out.lt; have tf := Q31.out.free) | (go_at_call 28; (with_reducible refine (refCheck_any (xs := f2.bu) PB1.out hl2 H02.out).mono ?_); rw [K2.out]; rintro e w5 ⟨rfl, hb⟩; have PA2 := Lib.hid (PA1.out.on hb); have PB2 := Lib.hid (PB1.out.on hb); have LB2 := Lib.hid (LB1.out.trans (hb.mono LB1.out.size)); have Q02 := Lib.hid (Q01.out.below hb Q01.out.lt); have Q12 := Lib.hid (Q11.out.below hb Q11.out.lt); have Q22 := Lib.hid (Q21.out.below hb Q21.out.lt); have Q32 := Lib.hid (Q31.out.below hb Q31.out.lt); clear hb; have p0 := Q02.out.cell 0; have p1 := Q02.out.cell 1; have p2 := Q02.out.cell 2; obtain ⟨q0, q1, q2, q3, q4⟩ := Q12.out.five; obtain ⟨r0, r1, r2, r3, r4⟩ := Q22.out.five; obtain ⟨t0, t1, t2, t3, t4⟩ := Q32.out.five; have ql := Q12.out.lt; have rl := Q22.out.lt; have tl := Q32.out.lt; have tf := Q32.out.free))
  go_loopw [10] (fun i wr => ∃ (k : Nat) (v : Value), k ≤ f1.bu.length ∧ i = .int .i64 k ∧ RefMid w f1 f2 A B c c' f1.le f1.gr w5.heap.size v k wr) (fun i _ => f1.bu.length - (intOf i).toNat)
  case atStart => exact ⟨0, _, Nat.zero_le _, rfl, mids_start Q12.out Q22.out Q32.out LB2.out⟩
  case round =>
    obtain ⟨k, v, hk, rfl, hK⟩ := hrel
    have HK := Lib.hid hK
    obtain ⟨q0, q1, q2, q3, q4⟩ := hK.x.five
    obtain ⟨r0, r1, r2, r3, r4⟩ := hK.y.five
    obtain ⟨e0, e1, e2, e3, e4⟩ := hK.box.five
    have ql := hK.x.lt
    have rl := hK.y.lt
    have el := hK.box.lt
    have ef := hK.box.free
    clear hK
    by_cases hlt : k < f1.bu.length
    · obtain ⟨x, hx⟩ : ∃ x, f1.bu[k]? = some x := ⟨f1.bu[k], List.getElem?_eq_getElem hlt⟩
      obtain ⟨y, hy⟩ : ∃ y, f2.bu[k]? = some y := ⟨f2.bu[k]'(by have := HLN.out; omega), List.getElem?_eq_getElem (by have := HLN.out; omega)⟩
      obtain ⟨b1, o1, hA1, hb1x, _⟩ := HAW.out k x hx
      obtain ⟨b1', o1', hA1', _, hcx⟩ := (HAW.out.on HK.out.low) k x hx
      subst hA1
      cases hA1'
      obtain ⟨b2, o2, hB1, hb2x, _⟩ := HBW.out k y hy
      obtain ⟨b2', o2', hB1', _, hcy⟩ := (HBW.out.on HK.out.low) k y hy
      subst hB1
      cases hB1'
      have HT := Lib.hid (addU_snoc hx hy)
      have H3 : Hid (k + 1 ≤ maxLen) := Lib.hid (by unfold maxLen; have := HLW.out; omega)
      have H4 : Hid ((k + 1) * 8 ≤ 140737488355328) := Lib.hid (by have := HLW.out; omega)
      have H5 : Hid (w.heap.size ≤ (wr.alloc (.cells #[.int .u64 (IntKind.u64.wrap (x + y))] 38)).heap.size) := Lib.hid (by have := HK.out.low.size; simp; omega)
      have hlt' : (k : Int) < (f1.bu.length : Int) := by omega
      have hlt2 : (k : Int) < (f2.bu.length : Int) := by have := HLN.out; omega
      clear hx hy
      obtain ⟨b1x, b2x⟩ : b1 < w.heap.size ∧ b2 < w.heap.size := ⟨hb1x, hb2x⟩
      have HC1 := Lib.hid hcx
      have bx1 : b1 < wr.heap.size := Nat.lt_of_lt_of_le hb1x HK.out.low.size
      have bx2 : b2 < wr.heap.size := Nat.lt_of_lt_of_le hb2x HK.out.low.size
      have hbA : Below wr.heap.size wr (wr.alloc (.cells #[.int .u64 (IntKind.u64.wrap (x + y))] 38)) := (Below.refl _ _).alloc (Nat.le_refl _) _
      have y1 : wr.drew.cell? ⟨w.heap.size + 1, 4, none⟩ = some (.slice (some ⟨b1, o1, none⟩) f1.bu.length c) := q4
      have y2 : wr.drew.cell? ⟨w.heap.size + 1 + 1, 4, none⟩ = some (.slice (some ⟨b2, o2, none⟩) f2.bu.length c') := r4
      have y3 : wr.drew.cell? ⟨w5.heap.size, 4, none⟩ = some v := e4
      have y4 : wr.drew.cell? ⟨b1, o1 + k, none⟩ = some (.int .u64 x) := hcx
      have y5 : wr.drew.cell? ⟨b2, o2 + k, none⟩ = some (.int .u64 y) := hcy
      have z1 : (wr.alloc (.cells #[.int .u64 (IntKind.u64.wrap (x + y))] 38)).drew.cell? ⟨w.heap.size + 1, 4, none⟩ = some (.slice (some ⟨b1, o1, none⟩) f1.bu.length c) := (hbA.cell (p := ⟨w.heap.size + 1, 4, none⟩) ql).trans q4
      have z2 : (wr.alloc (.cells #[.int .u64 (IntKind.u64.wrap (x + y))] 38)).drew.cell? ⟨w.heap.size + 1 + 1, 4, none⟩ = some (.slice (some ⟨b2, o2, none⟩) f2.bu.length c') := (hbA.cell (p := ⟨w.heap.size + 1 + 1, 4, none⟩) rl).trans r4
      have z3 : (wr.alloc (.cells #[.int .u64 (IntKind.u64.wrap (x + y))] 38)).drew.cell? ⟨w5.heap.size, 4, none⟩ = some v := (hbA.cell (p := ⟨w5.heap.size, 4, none⟩) el).trans e4
      have z4 : (wr.alloc (.cells #[.int .u64 (IntKind.u64.wrap (x + y))] 38)).drew.cell? ⟨b1, o1 + k, none⟩ = some (.int .u64 x) := (hbA.cell (p := ⟨b1, o1 + k, none⟩) bx1).trans hcx
      have z5 : (wr.alloc (.cells #[.int .u64 (IntKind.u64.wrap (x + y))] 38)).drew.cell? ⟨b2, o2 + k, none⟩ = some (.int .u64 y) := (hbA.cell (p := ⟨b2, o2 + k, none⟩) bx2).trans hcy
      clear hbA
      have HC2 := Lib.hid hcy
      go_wp2_with fail
      refine wp_region_held_drew (S := (fun w' => w'.cell? ⟨w.heap.size + 1, 4, none⟩ = some (.slice (some ⟨b1, o1, none⟩) f1.bu.length c) ∧ w'.cell? ⟨w.heap.size + 1 + 1, 4, none⟩ = some (.slice (some ⟨b2, o2, none⟩) f2.bu.length c') ∧ w'.cell? ⟨b1, o1 + k, none⟩ = some (.int .u64 x) ∧ w'.cell? ⟨b2, o2 + k, none⟩ = some (.int .u64 y))) (by kernel_rfl) ?_ (fun hHeld0 => ?_)
      · try dsimp only
        exact ⟨y1, y2, y4, y5⟩
      refine wpAnyH_take (i := 0) (oi := { dst := some 71, op := Op.fieldAddr 44 (Operand.tmp 9) 4, type := 0, pos := "ref.go:217", after := #[], guard := none }) (v := ?_) rfl (by kernel_rfl) (by kernel_rfl) (by kernel_rfl) (fun _ _ _ h => h) (Or.inl ⟨by rfl, ?_⟩) (by assumption) ?_
      rotate_left
      · intro wq hSq
        try dsimp only at hSq
        go_simp
        try (with_reducible rfl)
      try simp only [Act.put, List.setIfInBounds_toArray, List.set_cons_zero, List.set_cons_succ]
      refine wpAnyH_take (i := 2) (oi := { dst := some 73, op := Op.fieldAddr 44 (Operand.tmp 4) 4, type := 0, pos := "ref.go:217", after := #[], guard := none }) (v := ?_) rfl (by kernel_rfl) (by kernel_rfl) (by kernel_rfl) (fun _ _ _ h => h) (Or.inl ⟨by rfl, ?_⟩) (by assumption) ?_
      rotate_left
      · intro wq hSq
        try dsimp only at hSq
        go_simp
        try (with_reducible rfl)
      try simp only [Act.put, List.setIfInBounds_toArray, List.set_cons_zero, List.set_cons_succ]
      refine wpAnyH_take (i := 3) (oi := { dst := some 74, op := Op.load 42 (Operand.tmp 73), type := 42, pos := "ref.go:217", after := #[{ on := 2, ground := Ground.data }], guard := none }) (v := ?_) rfl (by kernel_rfl) (by kernel_rfl) (by kernel_rfl) (fun _ _ _ h => h) (Or.inl ⟨by rfl, ?_⟩) (by assumption) ?_
      rotate_left
      · intro wq hSq
        try dsimp only at hSq
        go_simp
        try (with_reducible rfl)
      try simp only [Act.put, List.setIfInBounds_toArray, List.set_cons_zero, List.set_cons_succ]
      refine wpAnyH_take (i := 4) (oi := { dst := some 75, op := Op.move (Operand.tmp 10), type := 3, pos := "ref.go:217", after := #[], guard := none }) (v := ?_) rfl (by kernel_rfl) (by kernel_rfl) (by kernel_rfl) (fun _ _ _ h => h) (Or.inl ⟨by rfl, ?_⟩) (by assumption) ?_
      rotate_left
      · intro wq hSq
        try dsimp only at hSq
        go_simp
        try (with_reducible rfl)
      try simp only [Act.put, List.setIfInBounds_toArray, List.set_cons_zero, List.set_cons_succ]
      refine wpAnyH_take (i := 5) (oi := { dst := some 76, op := Op.indexAddr 42 (Operand.tmp 74) (Operand.tmp 75), type := 0, pos := "ref.go:217", after := #[{ on := 3, ground := Ground.data }, { on := 4, ground := Ground.data }], guard := none }) (v := ?_) rfl (by kernel_rfl) (by kernel_rfl) (by kernel_rfl) (fun _ _ _ h => h) (Or.inl ⟨by rfl, ?_⟩) (by assumption) ?_
      rotate_left
      · intro wq hSq
        try dsimp only at hSq
        go_simp
        try (with_reducible rfl)
      try simp only [Act.put, List.setIfInBounds_toArray, List.set_cons_zero, List.set_cons_succ]
      refine wpAnyH_take (i := 6) (oi := { dst := some 77, op := Op.load 38 (Operand.tmp 76), type := 38, pos := "ref.go:217", after := #[{ on := 5, ground := Ground.data }], guard := none }) (v := ?_) rfl (by kernel_rfl) (by kernel_rfl) (by kernel_rfl) (fun _ _ _ h => h) (Or.inl ⟨by rfl, ?_⟩) (by assumption) ?_
      rotate_left
      · intro wq hSq
        try dsimp only at hSq
        go_simp
        try (with_reducible rfl)
      try simp only [Act.put, List.setIfInBounds_toArray, List.set_cons_zero, List.set_cons_succ]
      refine wpAnyH_take (i := 7) (oi := { dst := some 78, op := Op.fieldAddr 44 (Operand.tmp 5) 4, type := 0, pos := "ref.go:217", after := #[], guard := none }) (v := ?_) rfl (by kernel_rfl) (by kernel_rfl) (by kernel_rfl) (fun _ _ _ h => h) (Or.inl ⟨by rfl, ?_⟩) (by assumption) ?_
      rotate_left
      · intro wq hSq
        try dsimp only at hSq
        go_simp
        try (with_reducible rfl)
      try simp only [Act.put, List.setIfInBounds_toArray, List.set_cons_zero, List.set_cons_succ]
      refine wpAnyH_take (i := 8) (oi := { dst := some 79, op := Op.load 42 (Operand.tmp 78), type := 42, pos := "ref.go:217", after := #[{ on := 7, ground := Ground.data }], guard := none }) (v := ?_) rfl (by kernel_rfl) (by kernel_rfl) (by kernel_rfl) (fun _ _ _ h => h) (Or.inl ⟨by rfl, ?_⟩) (by assumption) ?_
      rotate_left
      · intro wq hSq
        try dsimp only at hSq
        go_simp
        try (with_reducible rfl)
      try simp only [Act.put, List.setIfInBounds_toArray, List.set_cons_zero, List.set_cons_succ]
      refine wpAnyH_take (i := 9) (oi := { dst := some 80, op := Op.move (Operand.tmp 10), type := 3, pos := "ref.go:217", after := #[], guard := none }) (v := ?_) rfl (by kernel_rfl) (by kernel_rfl) (by kernel_rfl) (fun _ _ _ h => h) (Or.inl ⟨by rfl, ?_⟩) (by assumption) ?_
      rotate_left
      · intro wq hSq
        try dsimp only at hSq
        go_simp
        try (with_reducible rfl)
      try simp only [Act.put, List.setIfInBounds_toArray, List.set_cons_zero, List.set_cons_succ]
      refine wpAnyH_take (i := 10) (oi := { dst := some 81, op := Op.indexAddr 42 (Operand.tmp 79) (Operand.tmp 80), type := 0, pos := "ref.go:217", after := #[{ on := 8, ground := Ground.data }, { on := 9, ground := Ground.data }], guard := none }) (v := ?_) rfl (by kernel_rfl) (by kernel_rfl) (by kernel_rfl) (fun _ _ _ h => h) (Or.inl ⟨by rfl, ?_⟩) (by assumption) ?_
      rotate_left
      · intro wq hSq
        try dsimp only at hSq
        go_simp
        try (with_reducible rfl)
      try simp only [Act.put, List.setIfInBounds_toArray, List.set_cons_zero, List.set_cons_succ]
      refine wpAnyH_take (i := 11) (oi := { dst := some 82, op := Op.load 38 (Operand.tmp 81), type := 38, pos := "ref.go:217", after := #[{ on := 10, ground := Ground.data }], guard := none }) (v := ?_) rfl (by kernel_rfl) (by kernel_rfl) (by kernel_rfl) (fun _ _ _ h => h) (Or.inl ⟨by rfl, ?_⟩) (by assumption) ?_
      rotate_left
      · intro wq hSq
        try dsimp only at hSq
        go_simp
        try (with_reducible rfl)
      try simp only [Act.put, List.setIfInBounds_toArray, List.set_cons_zero, List.set_cons_succ]
      refine wpAnyH_take (i := 12) (oi := { dst := some 83, op := Op.binOp BinOp.add 38 (Operand.tmp 77) (Operand.tmp 82) 38, type := 38, pos := "ref.go:217", after := #[{ on := 6, ground := Ground.data }, { on := 11, ground := Ground.data }], guard := none }) (v := ?_) rfl (by kernel_rfl) (by kernel_rfl) (by kernel_rfl) (fun _ _ _ h => h) (Or.inl ⟨by rfl, ?_⟩) (by assumption) ?_
      rotate_left
      · intro wq hSq
        try dsimp only at hSq
        go_simp
        try (with_reducible rfl)
      try simp only [Act.put, List.setIfInBounds_toArray, List.set_cons_zero, List.set_cons_succ]
      refine wpAnyH_ready (rs := [1, 13]) (by kernel_rfl) (by simp) ?_
      refine AllReadyH.cons (o := { dst := some 72, op := Op.load 42 (Operand.tmp 71), type := 42, pos := "ref.go:217", after := #[{ on := 0, ground := Ground.data }], guard := none }) rfl (fun K hK => ?_) (AllReadyH.cons (o := { dst := some 84, op := Op.buildSlice 42 1 #[(0, Operand.tmp 83)], type := 42, pos := "ref.go:217", after := #[{ on := 12, ground := Ground.data }], guard := none }) rfl (fun K hK => ?_) AllReadyH.nil)
      · go_simp
        refine hK.out _ _ (by exact ⟨y1, y2, y4, y5⟩) (fun hHeldA => ?_)
        clear hK K hHeld0
        try simp only [Act.put, List.setIfInBounds_toArray, List.set_cons_zero, List.set_cons_succ]
        refine wpAnyH_ready (rs := [13]) (by kernel_rfl) (by simp) ?_
        refine AllReadyH.cons (o := { dst := some 84, op := Op.buildSlice 42 1 #[(0, Operand.tmp 83)], type := 42, pos := "ref.go:217", after := #[{ on := 12, ground := Ground.data }], guard := none }) rfl (fun K hK => ?_) AllReadyH.nil
        go_simp
        refine hK.out _ _ (by exact ⟨z1, z2, z4, z5⟩) (fun hHeldB => ?_)
        clear hK K hHeldA
        try simp only [Act.put, List.setIfInBounds_toArray, List.set_cons_zero, List.set_cons_succ]
        refine wpAnyH_ready (rs := [14]) (by kernel_rfl) (by simp) ?_
        refine AllReadyH.cons (o := { dst := some 85, op := Op.call { callee := Callee.builtin Builtin.append, args := #[Operand.tmp 72, Operand.tmp 84], argTypes := #[42, 42] }, type := 42, pos := "ref.go:217", after := #[{ on := 1, ground := Ground.data }, { on := 13, ground := Ground.data }], guard := none }) rfl (fun K hK => ?_) AllReadyH.nil
        refine step_append_lies _ (by rfl) _ _ _ (by rfl) w.heap.size 38 i0 _ 1 8 Try.underlying42 hi hz0 hz1 hz2 rfl (by omega) _ k (u64s ((addU f1.bu f2.bu).take k)) (by rfl) (own_part HK.out.own (Part.of_below (by first | exact ((Below.refl _ _).alloc (Nat.le_refl _) _).drew | exact ((Below.refl _ _).drew).alloc (Nat.le_refl _) _ | exact (Below.refl _ _).alloc (Nat.le_refl _) _) (Nat.le_refl _) []) (by simp)) ⟨wr.heap.size, 0, none⟩ 1 1 [.int .u64 (IntKind.u64.wrap (x + y))] (by rfl) (by rfl) (World.news_of_block (cs := #[.int .u64 (IntKind.u64.wrap (x + y))]) (t := 38) (fr := (0, 0)) (heap_alloc_new wr _)) (by simp [Value.oneCell']) (by omega) H3.out H4.out (by have := H5.out; simp; omega) (wr.heap.size + 1) (by simp) ?_; intro gg gcap w6 hown6 hgr6 hat6 hlt6; have HK1 := Lib.hid (HK.out.grow (by first | exact ((Below.refl _ _).alloc (Nat.le_refl _) _).drew | exact ((Below.refl _ _).drew).alloc (Nat.le_refl _) _ | exact (Below.refl _ _).alloc (Nat.le_refl _) _) HT.out hown6 hgr6); have v1 : w6.cell? ⟨w.heap.size + 1, 4, none⟩ = some (.slice (some ⟨b1, o1, none⟩) f1.bu.length c) := HK1.out.1.1.cell 4; have v2 : w6.cell? ⟨w.heap.size + 1 + 1, 4, none⟩ = some (.slice (some ⟨b2, o2, none⟩) f2.bu.length c') := HK1.out.1.2.1.cell 4; have v3 : w6.cell? ⟨w5.heap.size, 4, none⟩ = some v := HK1.out.1.2.2.1.cell 4; have v4 : w6.cell? ⟨b1, o1 + k, none⟩ = some (.int .u64 x) := HK1.out.1.2.2.2 ⟨b1, o1 + k, none⟩ _ b1x HC1.out; have v5 : w6.cell? ⟨b2, o2 + k, none⟩ = some (.int .u64 y) := HK1.out.1.2.2.2 ⟨b2, o2 + k, none⟩ _ b2x HC2.out; have gl := HK1.out.1.2.2.1.lt; have gf := HK1.out.1.2.2.1.free; have nO1 : w5.heap.size ≠ w.heap.size + 1 := (by have := HK.out.lo; omega); have nO2 : w5.heap.size ≠ w.heap.size + 1 + 1 := (by have := HK.out.lo; omega); have nO3 : w5.heap.size ≠ b1 := (by have := HK.out.lo; omega); have nO4 : w5.heap.size ≠ b2 := (by have := HK.out.lo; omega); have s1 := (World.cell?_setCell_far w6 ⟨w5.heap.size, 4, none⟩ ⟨w.heap.size + 1, 4, none⟩ (.slice (some ⟨gg, 0, none⟩) (k + 1) gcap) nO1).trans v1; have s2 := (World.cell?_setCell_far w6 ⟨w5.heap.size, 4, none⟩ ⟨w.heap.size + 1 + 1, 4, none⟩ (.slice (some ⟨gg, 0, none⟩) (k + 1) gcap) nO2).trans v2; have s4 := (World.cell?_setCell_far w6 ⟨w5.heap.size, 4, none⟩ ⟨b1, o1 + k, none⟩ (.slice (some ⟨gg, 0, none⟩) (k + 1) gcap) nO3).trans v4; have s5 := (World.cell?_setCell_far w6 ⟨w5.heap.size, 4, none⟩ ⟨b2, o2 + k, none⟩ (.slice (some ⟨gg, 0, none⟩) (k + 1) gcap) nO4).trans v5; clear hown6 hgr6 hat6
        refine hK.out _ _ (by exact ⟨v1, v2, v4, v5⟩) (fun hHeldF => ?_)
        clear hK K hHeldB
        try simp only [Act.put, List.setIfInBounds_toArray, List.set_cons_zero, List.set_cons_succ]
        refine wpAnyH_take (i := 15) (oi := { dst := some 86, op := Op.fieldAddr 44 (Operand.tmp 9) 4, type := 0, pos := "ref.go:217", after := #[{ on := 0, ground := Ground.phase }, { on := 1, ground := Ground.phase }, { on := 2, ground := Ground.phase }, { on := 3, ground := Ground.phase }, { on := 4, ground := Ground.phase }, { on := 5, ground := Ground.phase }, { on := 6, ground := Ground.phase }, { on := 7, ground := Ground.phase }, { on := 8, ground := Ground.phase }, { on := 9, ground := Ground.phase }, { on := 10, ground := Ground.phase }, { on := 11, ground := Ground.phase }, { on := 12, ground := Ground.phase }, { on := 13, ground := Ground.phase }, { on := 14, ground := Ground.phase }], guard := none }) (v := ?_) rfl (by kernel_rfl) (by kernel_rfl) (by kernel_rfl) (fun _ _ _ h => h) (Or.inl ⟨by rfl, ?_⟩) (by assumption) ?_
        rotate_left
        · intro wq hSq
          try dsimp only at hSq
          go_simp
          try (with_reducible rfl)
        try simp only [Act.put, List.setIfInBounds_toArray, List.set_cons_zero, List.set_cons_succ]
        refine wpAnyH_ready (rs := [16]) (by kernel_rfl) (by simp) ?_
        refine AllReadyH.cons (o := { dst := none, op := Op.store 42 (Operand.tmp 86) (Operand.tmp 85), type := 0, pos := "ref.go:217", after := #[{ on := 15, ground := Ground.data }, { on := 14, ground := Ground.data }, { on := 14, ground := Ground.chain }, { on := 0, ground := Ground.phase }, { on := 1, ground := Ground.phase }, { on := 2, ground := Ground.phase }, { on := 3, ground := Ground.phase }, { on := 4, ground := Ground.phase }, { on := 5, ground := Ground.phase }, { on := 6, ground := Ground.phase }, { on := 7, ground := Ground.phase }, { on := 8, ground := Ground.phase }, { on := 9, ground := Ground.phase }, { on := 10, ground := Ground.phase }, { on := 11, ground := Ground.phase }, { on := 12, ground := Ground.phase }, { on := 13, ground := Ground.phase }, { on := 14, ground := Ground.phase }], guard := none }) rfl (fun K hK => ?_) AllReadyH.nil
        go_simp
        refine hK.out _ _ (by exact ⟨s1, s2, s4, s5⟩) (fun hHeldG => ?_)
        clear hK K hHeldF
        try simp only [Act.put, List.setIfInBounds_toArray, List.set_cons_zero, List.set_cons_succ]
        refine wpAnyH_done (by kernel_rfl) ?_ _
        go_wp2_with fail
        go_roundw
        case rel => exact ⟨k + 1, _, by omega, by go_num, HK1.out.2⟩
        case measure => simp [intOf]; omega
      · go_simp
        refine hK.out _ _ (by exact ⟨z1, z2, z4, z5⟩) (fun hHeldA => ?_)
        clear hK K hHeld0
        try simp only [Act.put, List.setIfInBounds_toArray, List.set_cons_zero, List.set_cons_succ]
        refine wpAnyH_ready (rs := [1]) (by kernel_rfl) (by simp) ?_
        refine AllReadyH.cons (o := { dst := some 72, op := Op.load 42 (Operand.tmp 71), type := 42, pos := "ref.go:217", after := #[{ on := 0, ground := Ground.data }], guard := none }) rfl (fun K hK => ?_) AllReadyH.nil
        go_simp
        refine hK.out _ _ (by exact ⟨z1, z2, z4, z5⟩) (fun hHeldB => ?_)
        clear hK K hHeldA
        try simp only [Act.put, List.setIfInBounds_toArray, List.set_cons_zero, List.set_cons_succ]
        refine wpAnyH_ready (rs := [14]) (by kernel_rfl) (by simp) ?_
        refine AllReadyH.cons (o := { dst := some 85, op := Op.call { callee := Callee.builtin Builtin.append, args := #[Operand.tmp 72, Operand.tmp 84], argTypes := #[42, 42] }, type := 42, pos := "ref.go:217", after := #[{ on := 1, ground := Ground.data }, { on := 13, ground := Ground.data }], guard := none }) rfl (fun K hK => ?_) AllReadyH.nil
        refine step_append_lies _ (by rfl) _ _ _ (by rfl) w.heap.size 38 i0 _ 1 8 Try.underlying42 hi hz0 hz1 hz2 rfl (by omega) _ k (u64s ((addU f1.bu f2.bu).take k)) (by rfl) (own_part HK.out.own (Part.of_below (by first | exact ((Below.refl _ _).alloc (Nat.le_refl _) _).drew | exact ((Below.refl _ _).drew).alloc (Nat.le_refl _) _ | exact (Below.refl _ _).alloc (Nat.le_refl _) _) (Nat.le_refl _) []) (by simp)) ⟨wr.heap.size, 0, none⟩ 1 1 [.int .u64 (IntKind.u64.wrap (x + y))] (by rfl) (by rfl) (World.news_of_block (cs := #[.int .u64 (IntKind.u64.wrap (x + y))]) (t := 38) (fr := (0, 0)) (heap_alloc_new wr _)) (by simp [Value.oneCell']) (by omega) H3.out H4.out (by have := H5.out; simp; omega) (wr.heap.size + 1) (by simp) ?_; intro gg gcap w6 hown6 hgr6 hat6 hlt6; have HK1 := Lib.hid (HK.out.grow (by first | exact ((Below.refl _ _).alloc (Nat.le_refl _) _).drew | exact ((Below.refl _ _).drew).alloc (Nat.le_refl _) _ | exact (Below.refl _ _).alloc (Nat.le_refl _) _) HT.out hown6 hgr6); have v1 : w6.cell? ⟨w.heap.size + 1, 4, none⟩ = some (.slice (some ⟨b1, o1, none⟩) f1.bu.length c) := HK1.out.1.1.cell 4; have v2 : w6.cell? ⟨w.heap.size + 1 + 1, 4, none⟩ = some (.slice (some ⟨b2, o2, none⟩) f2.bu.length c') := HK1.out.1.2.1.cell 4; have v3 : w6.cell? ⟨w5.heap.size, 4, none⟩ = some v := HK1.out.1.2.2.1.cell 4; have v4 : w6.cell? ⟨b1, o1 + k, none⟩ = some (.int .u64 x) := HK1.out.1.2.2.2 ⟨b1, o1 + k, none⟩ _ b1x HC1.out; have v5 : w6.cell? ⟨b2, o2 + k, none⟩ = some (.int .u64 y) := HK1.out.1.2.2.2 ⟨b2, o2 + k, none⟩ _ b2x HC2.out; have gl := HK1.out.1.2.2.1.lt; have gf := HK1.out.1.2.2.1.free; have nO1 : w5.heap.size ≠ w.heap.size + 1 := (by have := HK.out.lo; omega); have nO2 : w5.heap.size ≠ w.heap.size + 1 + 1 := (by have := HK.out.lo; omega); have nO3 : w5.heap.size ≠ b1 := (by have := HK.out.lo; omega); have nO4 : w5.heap.size ≠ b2 := (by have := HK.out.lo; omega); have s1 := (World.cell?_setCell_far w6 ⟨w5.heap.size, 4, none⟩ ⟨w.heap.size + 1, 4, none⟩ (.slice (some ⟨gg, 0, none⟩) (k + 1) gcap) nO1).trans v1; have s2 := (World.cell?_setCell_far w6 ⟨w5.heap.size, 4, none⟩ ⟨w.heap.size + 1 + 1, 4, none⟩ (.slice (some ⟨gg, 0, none⟩) (k + 1) gcap) nO2).trans v2; have s4 := (World.cell?_setCell_far w6 ⟨w5.heap.size, 4, none⟩ ⟨b1, o1 + k, none⟩ (.slice (some ⟨gg, 0, none⟩) (k + 1) gcap) nO3).trans v4; have s5 := (World.cell?_setCell_far w6 ⟨w5.heap.size, 4, none⟩ ⟨b2, o2 + k, none⟩ (.slice (some ⟨gg, 0, none⟩) (k + 1) gcap) nO4).trans v5; clear hown6 hgr6 hat6
        refine hK.out _ _ (by exact ⟨v1, v2, v4, v5⟩) (fun hHeldF => ?_)
        clear hK K hHeldB
        try simp only [Act.put, List.setIfInBounds_toArray, List.set_cons_zero, List.set_cons_succ]
        refine wpAnyH_take (i := 15) (oi := { dst := some 86, op := Op.fieldAddr 44 (Operand.tmp 9) 4, type := 0, pos := "ref.go:217", after := #[{ on := 0, ground := Ground.phase }, { on := 1, ground := Ground.phase }, { on := 2, ground := Ground.phase }, { on := 3, ground := Ground.phase }, { on := 4, ground := Ground.phase }, { on := 5, ground := Ground.phase }, { on := 6, ground := Ground.phase }, { on := 7, ground := Ground.phase }, { on := 8, ground := Ground.phase }, { on := 9, ground := Ground.phase }, { on := 10, ground := Ground.phase }, { on := 11, ground := Ground.phase }, { on := 12, ground := Ground.phase }, { on := 13, ground := Ground.phase }, { on := 14, ground := Ground.phase }], guard := none }) (v := ?_) rfl (by kernel_rfl) (by kernel_rfl) (by kernel_rfl) (fun _ _ _ h => h) (Or.inl ⟨by rfl, ?_⟩) (by assumption) ?_
        rotate_left
        · intro wq hSq
          try dsimp only at hSq
          go_simp
          try (with_reducible rfl)
        try simp only [Act.put, List.setIfInBounds_toArray, List.set_cons_zero, List.set_cons_succ]
        refine wpAnyH_ready (rs := [16]) (by kernel_rfl) (by simp) ?_
        refine AllReadyH.cons (o := { dst := none, op := Op.store 42 (Operand.tmp 86) (Operand.tmp 85), type := 0, pos := "ref.go:217", after := #[{ on := 15, ground := Ground.data }, { on := 14, ground := Ground.data }, { on := 14, ground := Ground.chain }, { on := 0, ground := Ground.phase }, { on := 1, ground := Ground.phase }, { on := 2, ground := Ground.phase }, { on := 3, ground := Ground.phase }, { on := 4, ground := Ground.phase }, { on := 5, ground := Ground.phase }, { on := 6, ground := Ground.phase }, { on := 7, ground := Ground.phase }, { on := 8, ground := Ground.phase }, { on := 9, ground := Ground.phase }, { on := 10, ground := Ground.phase }, { on := 11, ground := Ground.phase }, { on := 12, ground := Ground.phase }, { on := 13, ground := Ground.phase }, { on := 14, ground := Ground.phase }], guard := none }) rfl (fun K hK => ?_) AllReadyH.nil
        go_simp
        refine hK.out _ _ (by exact ⟨s1, s2, s4, s5⟩) (fun hHeldG => ?_)
        clear hK K hHeldF
        try simp only [Act.put, List.setIfInBounds_toArray, List.set_cons_zero, List.set_cons_succ]
        refine wpAnyH_done (by kernel_rfl) ?_ _
        go_wp2_with fail
        go_roundw
        case rel => exact ⟨k + 1, _, by omega, by go_num, HK1.out.2⟩
        case measure => simp [intOf]; omega
    · obtain rfl : k = f1.bu.length := by omega
      obtain ⟨t0, t1, t2, t3, t4⟩ := HK.out.res.five
      have tl := HK.out.res.lt
      have tf := HK.out.res.free
      obtain ⟨a5, c5, rfl⟩ := own_form HK.out.own
      go_wp2
      refine bodyPost_ret (v := .tuple #[.agg #[.int .u64 (IntKind.u64.wrap (f1.c + f2.c)), .int .u64 (IntKind.u64.wrap (f1.su + f2.su)), .int .i64 f1.le, .int .i64 f1.gr, .slice a5 f1.bu.length c5], .int .i64 0]) (by simp [results, Try.results26, go_sem, t0, t1, t2, t3, t4]) rfl ?_
      suffices hE : Part [w.heap.size + 1 + 1 + 1] wr _ from by
        refine ⟨a5, c5, by rw [HM.out, HG.out], ?_, HK.out.low.trans (hE.below HK.out.low.size (by simp; omega))⟩
        have ho := HK.out.own
        rw [show (addU f1.bu f2.bu).take f1.bu.length = addU f1.bu f2.bu from List.take_of_length_le (by simp [addU]; omega)] at ho
        exact own_part ho hE (fun q hq => by simpa using own_off ho HK.out.res (by decide) q hq)
      repeat (first | (with_reducible exact Part.refl _ _) | refine Part.set ?_ (by simp) _)
theorem refMerge_yes (hA : Ext .u64 w A f1.bu) (hB : Ext .u64 w B f2.bu) (hl1 : f1.bu.length ≤ 17592186044416) (h01 : ∀ (j : Nat) (x : Int), f1.bu[j]? = some x → 0 ≤ x) (h02 : ∀ (j : Nat) (x : Int), f2.bu[j]? = some x → 0 ≤ x) (hw1 : checkS l h d f1 = 0) (hw2 : checkS l h d f2 = 0) :
    Calls Try.prog 26 #[.agg #[.int .i64 l, .int .i64 h, .int .i64 d], .agg #[.int .u64 f1.c, .int .u64 f1.su, .int .i64 f1.le, .int .i64 f1.gr, .slice A f1.bu.length c], .agg #[.int .u64 f2.c, .int .u64 f2.su, .int .i64 f2.le, .int .i64 f2.gr, .slice B f2.bu.length c']] w (RefMerged w f1 f2) := by
  by_cases e : f1.gr < f2.gr
  · by_cases a : f1.le < 0
    · exact refMerge_y0a hA hB hl1 h01 h02 hw1 hw2 a e
    · by_cases b : f2.le < 0
      · exact refMerge_y3a hA hB hl1 h01 h02 hw1 hw2 (by omega) b e
      · by_cases c : f2.le < f1.le
        · exact refMerge_y1a hA hB hl1 h01 h02 hw1 hw2 (by omega) (by omega) c e
        · exact refMerge_y2a hA hB hl1 h01 h02 hw1 hw2 (by omega) (by omega) (by omega) e
  · have e' : f2.gr ≤ f1.gr := by omega
    by_cases a : f1.le < 0
    · exact refMerge_y0b hA hB hl1 h01 h02 hw1 hw2 a e'
    · by_cases b : f2.le < 0
      · exact refMerge_y3b hA hB hl1 h01 h02 hw1 hw2 (by omega) b e'
      · by_cases c : f2.le < f1.le
        · exact refMerge_y1b hA hB hl1 h01 h02 hw1 hw2 (by omega) (by omega) c e'
        · exact refMerge_y2b hA hB hl1 h01 h02 hw1 hw2 (by omega) (by omega) (by omega) e'
end
end Go.Proofs.Ytgmknhogogobjaa
