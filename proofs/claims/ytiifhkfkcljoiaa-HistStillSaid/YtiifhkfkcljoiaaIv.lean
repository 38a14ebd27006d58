/- THE WALKS of package hist: Merge's region in which a list is cloned and the merged snapshot is made. -/
import Derived.Test.YtiifhkfkcljoiaaIu
import Derived.Deep.RegionLaw
import Derived.Deep.AppendLies
import Derived.Laws.MakeOwn
namespace Go.Proofs.Ytiifhkfkcljoiaa
open Go Go.RowKit
set_option maxRecDepth 100000
/-- a region of a function's text, by its number -/
def regionAt (n : Nat) : Code → Option Code
  | .region id ops d => if id = n then some (.region id ops d) else none
  | .seq a b => match regionAt n a with | some c => some c | none => regionAt n b
  | .cond _ a b => match regionAt n a with | some c => some c | none => regionAt n b
  | .block _ c => regionAt n c
  | .loop c => regionAt n c
  | .scope c => regionAt n c
  | _ => none
noncomputable def C8 : Code := (Try.f24.body.bind (regionAt 8)).getD .skip
set_option maxRecDepth 1000000
set_option maxHeartbeats 51200000
theorem r8 {Q : Exit → Act → World → Prop} {w wr : World} {A B : Option Addr} {c c' : Nat} {f1 f2 : ShotH} {l h d : Int} (s0 s1 s2 s3 s6 s7 s8 s9 s10 s11 s12 s13 s14 s15 s16 s17 s18 s19 s20 s21 s22 s23 s24 s25 s26 s27 s28 s29 s30 s31 s32 s33 s34 s35 s36 s37 s38 s39 s40 s41 s42 s43 s44 s45 s46 s47 s48 s49 s50 s51 s52 s53 s54 s55 s56 s57 s58 s59 s60 s61 s62 s63 s64 s65 s66 s67 s68 s69 s70 s71 s72 s73 s74 : Value)
    (HM : Hid (MergeB w l h d f1 f2 A B c c' wr)) (HA : Hid (Ext .u64 w A f1.bu)) (HPOS : Hid (0 < f1.bu.length)) (hl1 : f1.bu.length ≤ 1048576)
    (HQ : Hid (∀ (b11 b' c9 : Nat) (v30 v31 v32 v33 v34 v35 v36 v37 v38 v39 v40 v41 v42 v43 v44 v45 v46 v47 v48 v49 v50 v51 v52 v53 v54 v55 v56 : Value) (wx : World), MidM w l h d f1 f2 A B c c' b11 b' c9 0 wx → Q .normal ⟨#[s0, s1, s2, s3, .pointer (some ⟨w.heap.size + 1, 0, none⟩), .pointer (some ⟨w.heap.size + 1 + 1, 0, none⟩), s6, s7, s8, s9, s10, .pointer (some ⟨b11, 0, none⟩), s12, s13, s14, s15, s16, s17, s18, s19, s20, s21, s22, s23, s24, s25, s26, s27, s28, s29, v30, v31, v32, v33, v34, v35, v36, v37, v38, v39, v40, v41, v42, v43, v44, v45, v46, v47, v48, v49, v50, v51, v52, v53, v54, v55, v56, s57, s58, s59, s60, s61, s62, s63, s64, s65, s66, s67, s68, s69, s70, s71, s72, s73, s74], []⟩ wx)) :
    Code.wp Try.prog C8 Q ⟨#[s0, s1, s2, s3, .pointer (some ⟨w.heap.size + 1, 0, none⟩), .pointer (some ⟨w.heap.size + 1 + 1, 0, none⟩), s6, s7, s8, s9, s10, s11, s12, s13, s14, s15, s16, s17, s18, s19, s20, s21, s22, s23, s24, s25, s26, s27, s28, s29, s30, s31, s32, s33, s34, s35, s36, s37, s38, s39, s40, s41, s42, s43, s44, s45, s46, s47, s48, s49, s50, s51, s52, s53, s54, s55, s56, s57, s58, s59, s60, s61, s62, s63, s64, s65, s66, s67, s68, s69, s70, s71, s72, s73, s74], []⟩ wr := by
  obtain ⟨x0, x1, x2, x3, x4⟩ := HM.out.x.five
  obtain ⟨y0, y1, y2, y3, y4⟩ := HM.out.y.five
  have xl := HM.out.x.lt
  have yl := HM.out.y.lt
  clear y4
  conv => arg 2; whnf
  go_region_held3 (fun w' => w'.cell? ⟨w.heap.size + 1, 0, none⟩ = some (.int .u64 f1.c) ∧ w'.cell? ⟨w.heap.size + 1, 1, none⟩ = some (.int .u64 f1.su) ∧ w'.cell? ⟨w.heap.size + 1, 2, none⟩ = some (.int .i64 f1.le) ∧ w'.cell? ⟨w.heap.size + 1, 3, none⟩ = some (.int .i64 f1.gr) ∧ w'.cell? ⟨w.heap.size + 1, 4, none⟩ = some (.slice A f1.bu.length c) ∧ w'.cell? ⟨w.heap.size + 1 + 1, 0, none⟩ = some (.int .u64 f2.c) ∧ w'.cell? ⟨w.heap.size + 1 + 1, 1, none⟩ = some (.int .u64 f2.su) ∧ w'.cell? ⟨w.heap.size + 1 + 1, 2, none⟩ = some (.int .i64 f2.le) ∧ w'.cell? ⟨w.heap.size + 1 + 1, 3, none⟩ = some (.int .i64 f2.gr))
    (first | (with_reducible exact ⟨x0, x1, x2, x3, x4, y0, y1, y2, y3⟩) | (with_reducible exact ⟨u0, u1, u2, u3, u4, z0, z1, z2, z3⟩) | (with_reducible exact ⟨k0, k1, k2, k3, k4, j0, j1, j2, j3⟩) | go_keep)
    (first
    | (go_at_call 43; (with_reducible refine (clone_ext (w := wr.drew) (HA.out.on HM.out.low.drew) HPOS.out hl1).mono ?_); rintro e w5 ⟨b', c9, rfl, hn⟩; have HZA := Lib.hid (mid_a HM.out hn); have hm5 := HM.out.on (((Below.refl wr.heap.size wr).drew).trans hn.2.2); obtain ⟨u0, u1, u2, u3, u4⟩ := hm5.x.five; obtain ⟨z0, z1, z2, z3, z4⟩ := hm5.y.five; clear hn hm5 z4)
    | (go_at_call 43; (with_reducible refine (clone_ext (w := (wr.alloc (.cells #[.int .u64 0, .int .u64 0, .int .i64 0, .int .i64 0, .slice none 0 0] 44)).drew) (HA.out.on (HM.out.alloc _).low.drew) HPOS.out hl1).mono ?_); rintro e w5 ⟨b', c9, rfl, hn⟩; have HZB := Lib.hid (mid_b HM.out hn); have hm5 := (HM.out.alloc (.cells #[.int .u64 0, .int .u64 0, .int .i64 0, .int .i64 0, .slice none 0 0] 44)).on (((Below.refl _ (wr.alloc (.cells #[.int .u64 0, .int .u64 0, .int .i64 0, .int .i64 0, .slice none 0 0] 44))).drew).trans hn.2.2); obtain ⟨u0, u1, u2, u3, u4⟩ := hm5.x.five; obtain ⟨z0, z1, z2, z3, z4⟩ := hm5.y.five; have hz9 := (Row.new wr 44 [.int .u64 0, .int .u64 0, .int .i64 0, .int .i64 0, .slice none 0 0]).drew.below hn.2.2 (by simp); obtain ⟨g0, g1, g2, g3, g4⟩ := hz9.five; have gf := hz9.free; have gl := hz9.lt; obtain ⟨k0, k1, k2, k3, k4⟩ := HZB.out.mb.x.five; obtain ⟨j0, j1, j2, j3, j4⟩ := HZB.out.mb.y.five; clear hn hm5 hz9 z4 j4))
  all_goals first | (with_reducible exact HQ.out _ b' c9 _ _ _ _ _ _ _ _ _ _ _ _ _ _ _ _ _ _ _ _ _ _ _ _ _ _ _ _ HZA.out) | (with_reducible exact HQ.out _ b' c9 _ _ _ _ _ _ _ _ _ _ _ _ _ _ _ _ _ _ _ _ _ _ _ _ _ _ _ _ HZB.out) | exact HQ.out _ b' c9 _ _ _ _ _ _ _ _ _ _ _ _ _ _ _ _ _ _ _ _ _ _ _ _ _ _ _ _ HZA.out | exact HQ.out _ b' c9 _ _ _ _ _ _ _ _ _ _ _ _ _ _ _ _ _ _ _ _ _ _ _ _ _ _ _ _ HZB.out
end Go.Proofs.Ytiifhkfkcljoiaa
