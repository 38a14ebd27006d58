/- THE WALKS of package hist: Merge. -/
import Derived.Test.YtiifhkfkcljoiaaIv
import Derived.Deep.RegionLaw
import Derived.Deep.AppendLies
import Derived.Laws.MakeOwn
namespace Go.Proofs.Ytiifhkfkcljoiaa
open Go Go.RowKit
set_option maxRecDepth 100000
section
variable {w : World} {A B : Option Addr} {c c' : Nat} {f1 f2 : ShotH} {l h d : Int}
theorem own_row {w : World} {base n c g size : Nat} {e : TypeId} {xs : List Value} (h : w.ownsRow base e size (.slice (some ⟨g, 0, none⟩) n c) n xs) : ∃ l, Row w g e l ∧ n * size ≤ l.length := by
  rcases h.2 with ⟨hv, _⟩ | ⟨g', cap, cur, hv, _, hh, hc, _, hs, _⟩
  · cases hv
  · cases hv
    refine ⟨cur.toList, ?_, ?_⟩
    · unfold Row; simpa using hh
    · have := Nat.mul_le_mul_right size hc
      simpa [hs] using this
theorem own_block {w : World} {base n size : Nat} {e : TypeId} {v : Value} {xs : List Value} (h : w.ownsRow base e size v n xs) : ∀ q, v.ownBlock = some q → q < w.heap.size := by
  intro q hq
  rcases h.2 with ⟨rfl, _⟩ | ⟨g, _, cur, rfl, _, hh, _⟩
  · cases hq
  · cases hq; exact lt_of_block hh
set_option maxHeartbeats 6400000
theorem merge_any (hA : Ext .u64 w A f1.bu) (hB : Ext .u64 w B f2.bu) (hl1 : f1.bu.length ≤ 17592186044416) (hl2 : f2.bu.length ≤ 17592186044416) :
    Calls Try.prog 24 #[.agg #[.int .i64 l, .int .i64 h, .int .i64 d], .agg #[.int .u64 f1.c, .int .u64 f1.su, .int .i64 f1.le, .int .i64 f1.gr, .slice A f1.bu.length c], .agg #[.int .u64 f2.c, .int .u64 f2.su, .int .i64 f2.le, .int .i64 f2.gr, .slice B f2.bu.length c']] w (MergedH w l h d f1 f2) := by
  have HM0 := Lib.hid (mergeB_start (w := w) (A := A) (B := B) (f1 := f1) (f2 := f2) (c := c) (c' := c') (l := l) (h := h) (d := d))
  have HA := Lib.hid hA
  have HB := Lib.hid hB
  clear hA hB
  go_enter Try.func24, Try.ntmps24
  go_wp2
  go_loopw [18] (fun i wr => ∃ j : Nat, j ≤ 2 ∧ i = .int .i64 j ∧ (1 ≤ j → checkS l h d f1 = 0) ∧ (2 ≤ j → checkS l h d f2 = 0) ∧ MergeB w l h d f1 f2 A B c c' wr) (fun i _ => 2 - (intOf i).toNat)
  case atStart => exact ⟨0, Nat.zero_le _, rfl, fun a => by omega, fun a => by omega, HM0.out⟩
  case round =>
    obtain ⟨j, hj, rfl, hc1, hc2, hM⟩ := hrel
    have HM := Lib.hid hM
    have HC1 := Lib.hid hc1
    have HC2 := Lib.hid hc2
    obtain ⟨t0, t1, t2, t3, t4, t5, t6, t7, t8, t9⟩ := ten_cells hM.both
    have p0 := hM.sc.cell 0
    have p1 := hM.sc.cell 1
    have p2 := hM.sc.cell 2
    have pl := hM.sc.lt
    have tl := hM.both.lt
    have rl := hM.res.lt
    have rf := hM.res.free
    obtain ⟨r0, r1, r2, r3, r4⟩ := hM.res.five
    clear hM hc1 hc2 HM0
    have hj3 : j = 0 ∨ j = 1 ∨ j = 2 := by omega
    rcases hj3 with rfl | rfl | rfl
    · by_cases hw : checkS l h d f1 = 0
      · have HW := Lib.hid hw
        have hwb : (checkP l h d f1.bu f1.c f1.su f1.le f1.gr != 0) = false := by simpa [checkS] using hw
        clear hw
        go_wp2_with (go_at_call 26; (with_reducible refine (check_any (xs := f1.bu) (HA.out.on (HM.out.alloc (.cells #[.int .u64 f1.c, .int .u64 f1.su, .int .i64 f1.le, .int .i64 f1.gr, .slice A f1.bu.length c] 44)).low) (by omega)).mono ?_); rintro e w5 ⟨rfl, hb⟩; have HM5 := Lib.hid ((HM.out.alloc (.cells #[.int .u64 f1.c, .int .u64 f1.su, .int .i64 f1.le, .int .i64 f1.gr, .slice A f1.bu.length c] 44)).on hb); have hre := HM5.out.res; obtain ⟨z0, z1, z2, z3, z4⟩ := hre.five; have zl := hre.lt; have zf := hre.free; clear hb hre)
        go_roundw
        case rel => exact ⟨1, by omega, by go_num, fun _ => HW.out, fun a => by omega, HM5.out⟩
        case measure => simp [intOf]
      · have HW := Lib.hid hw
        have hwb : (checkP l h d f1.bu f1.c f1.su f1.le f1.gr != 0) = true := by simpa [checkS] using hw
        clear hw
        go_wp2_with (go_at_call 26; (with_reducible refine (check_any (xs := f1.bu) (HA.out.on (HM.out.alloc (.cells #[.int .u64 f1.c, .int .u64 f1.su, .int .i64 f1.le, .int .i64 f1.gr, .slice A f1.bu.length c] 44)).low) (by omega)).mono ?_); rintro e w5 ⟨rfl, hb⟩; have HM5 := Lib.hid ((HM.out.alloc (.cells #[.int .u64 f1.c, .int .u64 f1.su, .int .i64 f1.le, .int .i64 f1.gr, .slice A f1.bu.length c] 44)).on hb); have hre := HM5.out.res; obtain ⟨z0, z1, z2, z3, z4⟩ := hre.five; have zl := hre.lt; have zf := hre.free; clear hb hre)
        refine bodyPost_ret (v := .tuple #[.agg #[.int .u64 0, .int .u64 0, .int .i64 0, .int .i64 0, .slice none 0 0], .int .i64 (checkS l h d f1)]) (by simp [results, Try.results24, go_sem, z0, z1, z2, z3, z4, checkS]) rfl ⟨?_, .inr ⟨_, HW.out, .inl rfl, rfl⟩⟩
        have hlow := HM5.out.low
        repeat (first | (with_reducible exact hlow) | refine Below.setCell ?_ (by dsimp only; omega) _)
    · by_cases hw : checkS l h d f2 = 0
      · have HW := Lib.hid hw
        have hwb : (checkP l h d f2.bu f2.c f2.su f2.le f2.gr != 0) = false := by simpa [checkS] using hw
        clear hw
        go_wp2_with (go_at_call 26; (with_reducible refine (check_any (xs := f2.bu) (HB.out.on (HM.out.alloc (.cells #[.int .u64 f2.c, .int .u64 f2.su, .int .i64 f2.le, .int .i64 f2.gr, .slice B f2.bu.length c'] 44)).low) (by omega)).mono ?_); rintro e w5 ⟨rfl, hb⟩; have HM5 := Lib.hid ((HM.out.alloc (.cells #[.int .u64 f2.c, .int .u64 f2.su, .int .i64 f2.le, .int .i64 f2.gr, .slice B f2.bu.length c'] 44)).on hb); have hre := HM5.out.res; obtain ⟨z0, z1, z2, z3, z4⟩ := hre.five; have zl := hre.lt; have zf := hre.free; clear hb hre)
        go_roundw
        case rel => exact ⟨2, by omega, by go_num, fun _ => HC1.out (by omega), fun a => HW.out, HM5.out⟩
        case measure => simp [intOf]
      · have HW := Lib.hid hw
        have hwb : (checkP l h d f2.bu f2.c f2.su f2.le f2.gr != 0) = true := by simpa [checkS] using hw
        clear hw
        go_wp2_with (go_at_call 26; (with_reducible refine (check_any (xs := f2.bu) (HB.out.on (HM.out.alloc (.cells #[.int .u64 f2.c, .int .u64 f2.su, .int .i64 f2.le, .int .i64 f2.gr, .slice B f2.bu.length c'] 44)).low) (by omega)).mono ?_); rintro e w5 ⟨rfl, hb⟩; have HM5 := Lib.hid ((HM.out.alloc (.cells #[.int .u64 f2.c, .int .u64 f2.su, .int .i64 f2.le, .int .i64 f2.gr, .slice B f2.bu.length c'] 44)).on hb); have hre := HM5.out.res; obtain ⟨z0, z1, z2, z3, z4⟩ := hre.five; have zl := hre.lt; have zf := hre.free; clear hb hre)
        refine bodyPost_ret (v := .tuple #[.agg #[.int .u64 0, .int .u64 0, .int .i64 0, .int .i64 0, .slice none 0 0], .int .i64 (checkS l h d f2)]) (by simp [results, Try.results24, go_sem, z0, z1, z2, z3, z4, checkS]) rfl ⟨?_, .inr ⟨_, HW.out, .inr ⟨HC1.out (by omega), rfl⟩, rfl⟩⟩
        have hlow := HM5.out.low
        repeat (first | (with_reducible exact hlow) | refine Below.setCell ?_ (by dsimp only; omega) _)
    · have hc1 := HC1.out (by omega)
      have hc2 := HC2.out (by omega)
      obtain ⟨hr, hn1⟩ := check_len hc1
      have hn2 := (check_len hc2).2
      have HLN : Hid (f1.bu.length = f2.bu.length) := Lib.hid (by omega)
      have HPOS : Hid (0 < f1.bu.length) := Lib.hid (by have := (cnt_few hr).1; omega)
      have HK1 := Lib.hid hc1
      have HK2 := Lib.hid hc2
      clear hc1 hc2 hr hn1 hn2 HC1 HC2 t0 t1 t2 t3 t4 t5 t6 t7 t8 t9 p0 p1 p2 r0 r1 r2 r3 r4
      obtain ⟨x0, x1, x2, x3, x4⟩ := HM.out.x.five
      obtain ⟨y0, y1, y2, y3, y4⟩ := HM.out.y.five
      have xl := HM.out.x.lt
      have yl := HM.out.y.lt
      go_upto_region 8 with fail
      go_cut [11] (fun s11 wx => ∃ b11 b' c9, s11 = .pointer (some ⟨b11, 0, none⟩) ∧ MidM w l h d f1 f2 A B c c' b11 b' c9 0 wx)
      case first =>
        refine r8 _ _ _ _ _ _ _ _ _ _ _ _ _ _ _ _ _ _ _ _ _ _ _ _ _ _ _ _ _ _ _ _ _ _ _ _ _ _ _ _ _ _ _ _ _ _ _ _ _ _ _ _ _ _ _ _ _ _ _ _ _ _ _ _ _ _ _ _ _ _ _ _ _ HM HA HPOS (by have h1 := (check_len HK1.out).2; have h2 := cnt_few (check_len HK1.out).1; omega) (Lib.hid ?_)
        intro b11 b' c9 v30 v31 v32 v33 v34 v35 v36 v37 v38 v39 v40 v41 v42 v43 v44 v45 v46 v47 v48 v49 v50 v51 v52 v53 v54 v55 v56 wx hmid
        go_wp2_with fail
        go_meet
        exact ⟨_, b', c9, rfl, hmid⟩
      case rest =>
        obtain ⟨b11, b', c9, rfl, hQ⟩ := hcut
        have HQ := Lib.hid hQ
        obtain ⟨y0, y1, y2, y3, y4⟩ := hQ.mb.y.five
        have yl2 := hQ.mb.y.lt
        rw [← HLN.out] at y4
        clear hQ
        go_wp2
        go_loopw [60] (fun i wr => ∃ k : Nat, k ≤ f1.bu.length ∧ i = .int .i64 k ∧ MidM w l h d f1 f2 A B c c' b11 b' c9 k wr) (fun i _ => f1.bu.length - (intOf i).toNat)
        case atStart => exact ⟨0, Nat.zero_le _, rfl, HQ.out⟩
        case round =>
          obtain ⟨k, hk, rfl, hK⟩ := hrel
          have HK := Lib.hid hK
          obtain ⟨e0, e1, e2, e3, e4⟩ := hK.box.five
          have el := hK.box.lt
          clear hK
          by_cases hlt : k < f1.bu.length
          · obtain ⟨x, hx⟩ : ∃ x, f1.bu[k]? = some x := ⟨f1.bu[k], List.getElem?_eq_getElem hlt⟩
            obtain ⟨y, hy⟩ : ∃ y, f2.bu[k]? = some y := ⟨f2.bu[k]'(by have := HLN.out; omega), List.getElem?_eq_getElem (by have := HLN.out; omega)⟩
            obtain ⟨b2, o2, rfl, _, hcy⟩ := (HB.out.on HK.out.mb.low) k y hy
            have hcx := own_cell (j := k) HK.out.own (by rw [u64s_get, mix_get HLN.out hlt, hx]; rfl)
            have hfx := HK.out.own.frozenAt
            have hlt' : (k : Int) < (f1.bu.length : Int) := by omega
            have hlt2 : (k : Int) < (f2.bu.length : Int) := by have := HLN.out; omega
            have bl := own_block HK.out.own b' rfl
            obtain ⟨lx, hrx, _⟩ := own_row HK.out.own
            have hbne : b' ≠ b11 := own_off HK.out.own HK.out.box (by decide) b' rfl
            have HNX : Hid (MidM w l h d f1 f2 A (some ⟨b2, o2, none⟩) c c' b11 b' c9 (k + 1) (wr.setCell ⟨b', k, none⟩ (.int .u64 (IntKind.u64.wrap (x + y))))) := Lib.hid (by
              have hst := (HK.out.own.stored k (.int .u64 (IntKind.u64.wrap (x + y)))).1
              rw [u64s_set, mix_set HLN.out hx hy] at hst
              exact ⟨HK.out.box.far hbne _, hst, HK.out.lo, HK.out.mb.store hrx HK.out.lo⟩)
            clear hx hy hrx hbne
            go_wp2
            go_roundw
            case rel => exact ⟨k + 1, by omega, by go_num, HNX.out⟩
            case measure => simp [intOf]; omega
          · obtain rfl : k = f1.bu.length := by omega
            have hre := HK.out.mb.res
            obtain ⟨z0, z1, z2, z3, z4⟩ := hre.five
            have zl := hre.lt
            have zf := hre.free
            clear hre
            go_wp2
            refine bodyPost_ret (v := .tuple #[.agg #[.int .u64 (IntKind.u64.wrap (f1.c + f2.c)), .int .u64 (IntKind.u64.wrap (f1.su + f2.su)), .int .i64 (IntKind.i64.wrap (min (IntKind.u64.wrap f1.le) (IntKind.u64.wrap f2.le))), .int .i64 (max f1.gr f2.gr), (.slice (some ⟨b', 0, none⟩) f1.bu.length c9)], .int .i64 0]) (by simp [results, Try.results24, go_sem, z0, z1, z2, z3, z4]; first | done | (rw [IntKind.wrap_i64]; rfl) | simp [wrap64, IntKind.wrap_i64]) rfl ?_
            suffices hE : Part [w.heap.size + 1 + 1 + 1] wr _ from by
              refine ⟨HK.out.mb.low.trans (hE.below HK.out.mb.low.size (by simp; omega)), .inl ⟨HK1.out, HK2.out, b', c9, rfl, HK.out.lo, ?_⟩⟩
              have ho := HK.out.own
              rw [mix_all HLN.out] at ho
              exact own_part ho hE (fun q hq => by simpa using own_off ho HK.out.mb.res (by decide) q hq)
            repeat (first | (with_reducible exact Part.refl _ _) | refine Part.set ?_ (by simp) _)
end
end Go.Proofs.Ytiifhkfkcljoiaa
