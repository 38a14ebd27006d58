/- THE WALKS of package snap: collected, a collect more. -/
import Derived.Test.YtdadgppbpomdoaaPk
namespace Go.Proofs.Ytdadgppbpomdoaa
open Go Go.RowKit

set_option maxHeartbeats 1600000
set_option maxRecDepth 100000
/-- a collect that is neither clean nor the last one: the next one begins -/
theorem collected_nil {w : World} {bp bk g cw n : Nat} {t : Int} {nx : Value} {c : Nat} {xs : List Int} (hp : Row w bp 82 (scanL bk t nx (.slice none 0 0) (.slice (some ⟨g, 0, none⟩) n cw) (c : Int) nilS false 0))
    (hx : Lies w g xs) (hg : g < w.heap.size) (hxn : xs.length = n) (hn : n ≤ 64) (hc : c ≤ 1000000) (hgp : g ≠ bp) (he : ((c : Int) + 1 == t) = false) (hn0 : 0 < n) :
    Calls Try.prog 49 #[.pointer (some ⟨bp, 0, none⟩)] w fun e w' => e = .returned (.tuple #[]) ∧ Row w' bp 82 (scanL bk t nx (.slice (some ⟨g, 0, none⟩) n cw) (.slice none 0 0) ((c : Int) + 1) nilS false 0) ∧ Part [bp] w w' := by
  have hcl : decide (xs = []) = false := by rw [decide_eq_false_iff_not]; rintro rfl; simp at hxn; omega
  have hla : AheadL w bp none [] := fun h => by simp at h
  have hm : ([] : List Int).length = 0 := rfl
  obtain ⟨c0, c1, c2, c3, c4, c5, c6, c7, c8, c9, c10, c11, c12⟩ := pendP_cells hp
  have hf := hp.free
  have hlt := hp.lt
  have HP1 := Lib.hid (show Row (w.setCell ⟨bp, 9, none⟩ (.int .i64 ((c : Int) + 1))) bp 82 (scanL bk t nx (.slice none 0 0) (.slice (some ⟨g, 0, none⟩) n cw) ((c : Int) + 1) nilS false 0) from Row.of_eq (hp.set 9 _) (by simp [scanL, pendP]))
  have HE1 := Lib.hid ((Part.refl [bp] w).set (p := ⟨bp, 9, none⟩) (by simp) (.int .i64 ((c : Int) + 1)))
  have HX1 := Lib.hid (hx.part HE1.out hg (by simpa using hgp))
  have HA1 : Hid (AheadL (w.setCell ⟨bp, 9, none⟩ (.int .i64 ((c : Int) + 1))) bp none []) := Lib.hid (fun h => by
    obtain ⟨ga, e, h1, h2, h3⟩ := hla h
    exact ⟨ga, e, h1.part HE1.out h2 (by simpa using h3), by simpa using h2, h3⟩)
  have HXN := Lib.hid hxn
  have HMM := Lib.hid hm
  have HCL := Lib.hid hcl
  have HN0 := Lib.hid hn0
  clear hp hx hxn hm hla hg hcl hn0 c0 c1 c2 c3 c4 c5 c6 c7 c8 c10 c11 c12
  go_enter Try.func49, Try.ntmps49
  go_upto_region 1 with fail
  clear c9 hf hlt
  generalize w.setCell ⟨bp, 9, none⟩ (.int .i64 ((c : Int) + 1)) = wz at *
  obtain ⟨p0, p1, p2, p3, p4, p5, p6, p7, p8, p9, p10, p11, p12⟩ := pendP_cells HP1.out
  have plt := HP1.out.lt
  have pf := HP1.out.free
  go_quiet ((go_at_call 43; exact Calls.quiet_of (equal_is HCL.out (HX1.out.draws _) HXN.out HMM.out HA1.out hn HN0.out)))
  go_wp2
  go_quiet (fail)
  go_wp2
  go_region
  all_goals
    go_wp2
    go_end0
    refine ⟨rfl, Row.of_eq (l := ((scanL bk t nx (.slice none 0 0) (.slice (some ⟨g, 0, none⟩) n cw) ((c : Int) + 1) nilS false 0).set 7 (.slice (some ⟨g, 0, none⟩) n cw)).set 8 (.slice none 0 0)) ?_ (by simp [scanL, pendP]), ?_⟩
    · first | exact ((HP1.out.drewN _).drew.set 7 _).set 8 _ | exact (((HP1.out.drewN _).set 7 _).set 8 _).drew | exact Row.of_eq (((HP1.out.drewN _).drew.set 8 _).set 7 _) (by simp [scanL, pendP]) | exact Row.of_eq ((((HP1.out.drewN _).set 8 _).set 7 _).drew) (by simp [scanL, pendP])
    · refine HE1.out.then_ ?_
      repeat (first | exact Part.refl _ _ | (with_reducible refine Part.drewN ?_ _) | (with_reducible refine Part.drew ?_) | refine Part.set ?_ (by simp) _)
theorem collected_some {w : World} {bp bk g cw n ga ca : Nat} {t : Int} {nx : Value} {c : Nat} {xs la : List Int} (hp : Row w bp 82 (scanL bk t nx (.slice (some ⟨ga, 0, none⟩) n ca) (.slice (some ⟨g, 0, none⟩) n cw) (c : Int) nilS false 0))
    (hx : Lies w g xs) (hg : g < w.heap.size) (hxn : xs.length = n) (hl : Lies w ga la) (hga : ga < w.heap.size) (hgap : ga ≠ bp) (hm : la.length = n) (hn : n ≤ 64) (hc : c ≤ 1000000) (hgp : g ≠ bp) (hcl : decide (xs = la) = false) (he : ((c : Int) + 1 == t) = false) (hn0 : 0 < n) :
    Calls Try.prog 49 #[.pointer (some ⟨bp, 0, none⟩)] w fun e w' => e = .returned (.tuple #[]) ∧ Row w' bp 82 (scanL bk t nx (.slice (some ⟨g, 0, none⟩) n cw) (.slice (some ⟨ga, 0, none⟩) 0 ca) ((c : Int) + 1) nilS false 0) ∧ Part [bp] w w' := by
  have hla : AheadL w bp (some ⟨ga, 0, none⟩) la := fun _ => ⟨ga, rfl, hl, hga, hgap⟩
  clear hl
  obtain ⟨c0, c1, c2, c3, c4, c5, c6, c7, c8, c9, c10, c11, c12⟩ := pendP_cells hp
  have hf := hp.free
  have hlt := hp.lt
  have HP1 := Lib.hid (show Row (w.setCell ⟨bp, 9, none⟩ (.int .i64 ((c : Int) + 1))) bp 82 (scanL bk t nx (.slice (some ⟨ga, 0, none⟩) n ca) (.slice (some ⟨g, 0, none⟩) n cw) ((c : Int) + 1) nilS false 0) from Row.of_eq (hp.set 9 _) (by simp [scanL, pendP]))
  have HE1 := Lib.hid ((Part.refl [bp] w).set (p := ⟨bp, 9, none⟩) (by simp) (.int .i64 ((c : Int) + 1)))
  have HX1 := Lib.hid (hx.part HE1.out hg (by simpa using hgp))
  have HA1 : Hid (AheadL (w.setCell ⟨bp, 9, none⟩ (.int .i64 ((c : Int) + 1))) bp (some ⟨ga, 0, none⟩) la) := Lib.hid (fun h => by
    obtain ⟨ga, e, h1, h2, h3⟩ := hla h
    exact ⟨ga, e, h1.part HE1.out h2 (by simpa using h3), by simpa using h2, h3⟩)
  have HXN := Lib.hid hxn
  have HMM := Lib.hid hm
  have HCL := Lib.hid hcl
  have HN0 := Lib.hid hn0
  clear hp hx hxn hm hla hg hcl hn0 c0 c1 c2 c3 c4 c5 c6 c7 c8 c10 c11 c12
  go_enter Try.func49, Try.ntmps49
  go_upto_region 1 with fail
  clear c9 hf hlt
  generalize w.setCell ⟨bp, 9, none⟩ (.int .i64 ((c : Int) + 1)) = wz at *
  obtain ⟨p0, p1, p2, p3, p4, p5, p6, p7, p8, p9, p10, p11, p12⟩ := pendP_cells HP1.out
  have plt := HP1.out.lt
  have pf := HP1.out.free
  go_quiet ((go_at_call 43; exact Calls.quiet_of (equal_is HCL.out (HX1.out.draws _) HXN.out HMM.out HA1.out hn HN0.out)))
  go_wp2
  go_quiet (fail)
  go_wp2
  go_region
  all_goals
    go_wp2
    go_end0
    refine ⟨rfl, Row.of_eq (l := ((scanL bk t nx (.slice (some ⟨ga, 0, none⟩) n ca) (.slice (some ⟨g, 0, none⟩) n cw) ((c : Int) + 1) nilS false 0).set 7 (.slice (some ⟨g, 0, none⟩) n cw)).set 8 (.slice (some ⟨ga, 0, none⟩) 0 ca)) ?_ (by simp [scanL, pendP]), ?_⟩
    · first | exact ((HP1.out.drewN _).drew.set 7 _).set 8 _ | exact (((HP1.out.drewN _).set 7 _).set 8 _).drew | exact Row.of_eq (((HP1.out.drewN _).drew.set 8 _).set 7 _) (by simp [scanL, pendP]) | exact Row.of_eq ((((HP1.out.drewN _).set 8 _).set 7 _).drew) (by simp [scanL, pendP])
    · refine HE1.out.then_ ?_
      repeat (first | exact Part.refl _ _ | (with_reducible refine Part.drewN ?_ _) | (with_reducible refine Part.drew ?_) | refine Part.set ?_ (by simp) _)
end Go.Proofs.Ytdadgppbpomdoaa
