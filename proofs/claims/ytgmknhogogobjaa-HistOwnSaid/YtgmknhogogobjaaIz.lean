/- THE WALKS of package hist: HistOwn's walk. -/
import Derived.Test.YtgmknhogogobjaaIy
import Derived.Deep.RegionLaw
import Derived.Deep.AppendLies
import Derived.Laws.MakeOwn
import Derived.Test.YtgmknhogogobjaaEy
import Derived.Test.YtgmknhogogobjaaIq
namespace Go.Proofs.Ytgmknhogogobjaa
open Go Go.RowKit
set_option maxRecDepth 100000
set_option maxHeartbeats 12800000
theorem OwnAll.far {W wr : World} {bh bk bw m g j : Nat} {l h d x : Int} {ws : List Int} {is : List ItemH} {lx : List Value} (hO : OwnAll W bh bk bw l h d m ws is wr) (hrx : Row wr g 38 lx) (hlo : W.heap.size ≤ g) (hn : ∀ i, i ∈ is → ∀ q, i.v.ownBlock = some q → q ≠ g) : OwnAll W bh bk bw l h d m ws is (wr.setCell ⟨g, j, none⟩ (.int .u64 x)) := by
  have hP : Part [g] wr (wr.setCell ⟨g, j, none⟩ (.int .u64 x)) := (Part.refl [g] wr).set (by simp) _
  exact ⟨⟨hO.hist.head.part hP (by simpa using hO.hist.head.ne hrx (by decide)), hO.hist.words.part hP (by simpa using hO.hist.words.head.ne hrx (by decide)) (by simpa using hO.hist.words.row.ne hrx (by decide)), hO.hist.len, hO.hist.few⟩, hO.low.setCell hlo _, hO.bwlo, fun i hi => ⟨(hO.ok i hi).row.part hP (by simpa using (hO.ok i hi).row.ne hrx (by decide)), own_part (hO.ok i hi).own hP (fun q hq => by simpa using hn i hi q hq), (hO.ok i hi).lo⟩, hO.apart⟩
theorem hall_any {w : World} {bh bk bw m : Nat} {l h d : Int} {ws : List Int} (hs : HistM w bh bk bw l h d m ws) : Calls Try.prog 23 #[.pointer (some ⟨bh, 0, none⟩)] w (Copied w ws) := by
  have c4 : w.cell? ⟨bh, 4, none⟩ = some (.pointer (some ⟨bk, 0, none⟩)) := hs.head.cell 4
  have HS := Lib.hid hs
  clear hs
  go_enter Try.func23, Try.ntmps23
  go_wp2_with (go_at_call 46; (with_reducible refine (all_any HS.out.words).mono ?_); rintro e w2 ⟨b, rfl, h1, h2, h3⟩; have H1 := Lib.hid h1; have H2 := Lib.hid h2; have H3 := Lib.hid h3; clear h1 h2 h3)
  go_ret
  exact ⟨b, rfl, H1.out, H2.out, H3.out⟩
theorem two_ones : ∀ u ∈ [Value.int .u64 1, .int .u64 2], u.oneCell' = true := by
  intro u hu
  simp at hu
  rcases hu with rfl | rfl <;> rfl
theorem check_why {l h d why : Int} {f : ShotH} (r : Sc.rightB l h d = true) (h0 : why ≠ 0) (e : why = checkS l h d f) : why = 100 := by
  subst e
  unfold checkS checkP at h0 ⊢
  have hr : ¬ (Sc.rightB l h d = false) := by rw [r]; decide
  rw [if_neg hr] at h0 ⊢
  split
  · rfl
  · rename_i a
    rw [if_neg a] at h0
    split
    · rfl
    · rename_i b
      rw [if_neg b] at h0
      split
      · rfl
      · rename_i c
        rw [if_neg c] at h0
        exact absurd rfl h0
theorem histOwn_no {l h d : Int} (r : Sc.rightB l h d = false) {A : Option Addr} {len cap : Nat} (W : World) : Calls Try.prog 9 #[.agg #[.int .i64 l, .int .i64 h, .int .i64 d], .slice A len cap] W fun e w' => e = .returned (.bool true) ∧ Below W.heap.size W w' := by
  have HB0 := Lib.hid (show Below W.heap.size W (W.alloc (.cells #[.int .i64 l, .int .i64 h, .int .i64 d] 23)) from (Below.refl _ _).alloc (Nat.le_refl _) _)
  have HS0 := Lib.hid (Row.new W 23 [.int .i64 l, .int .i64 h, .int .i64 d])
  have R := Lib.hid r
  clear r
  go_enter Try.func9, Try.ntmps9
  go_wp2_with (first
    | (go_at_call 13; (with_reducible refine (begins_any _).mono ?_); rintro e w1 ⟨rfl, hb⟩; have HB1 := Lib.hid (HB0.out.trans (hb.mono HB0.out.size)); have HS1 := Lib.hid (HS0.out.below hb HS0.out.lt); have hs1 := HS1.out; have p0 := hs1.cell 0; have p1 := hs1.cell 1; have p2 := hs1.cell 2; have pl := hs1.lt; clear hb hs1)
    | (go_at_call 11; (with_reducible refine (hnew_no R.out _).mono ?_); rintro e w2 ⟨rfl, hb⟩; have HB2 := Lib.hid (HB1.out.trans (hb.mono HB1.out.size)); clear hb))
  go_ret
  exact ⟨rfl, HB2.out⟩
theorem histOwn_yes {l h d : Int} (r : Sc.rightB l h d = true) {A : Option Addr} {cap : Nat} {ops : List (Int × Int × Int)} (W : World) (hE : Ext3 .u8 .i64 .u64 W A ops) (hr : ops.length * 24 ≤ 140737488355328) : Calls Try.prog 9 #[.agg #[.int .i64 l, .int .i64 h, .int .i64 d], .slice A ops.length cap] W fun e w' => e = .returned (.bool true) ∧ Below W.heap.size W w' := by
  have HB0 := Lib.hid (show Below W.heap.size W (W.alloc (.cells #[.int .i64 l, .int .i64 h, .int .i64 d] 23)) from (Below.refl _ _).alloc (Nat.le_refl _) _)
  have HS0 := Lib.hid (Row.new W 23 [.int .i64 l, .int .i64 h, .int .i64 d])
  have R := Lib.hid r
  have HE := Lib.hid hE
  obtain ⟨m, hm⟩ : ∃ m, Sc.cnt l h d = m := ⟨_, rfl⟩
  have HM : Hid (m = Sc.cnt l h d) := Lib.hid hm.symm
  have HPOS : Hid (0 < m) := Lib.hid (by rw [← hm]; have := (cnt_few r).1; omega)
  have hnew := fun w => hnew_yes r w
  unfold NewH at hnew
  rw [hm] at hnew
  have HNEW := Lib.hid hnew
  clear r hE hm hnew
  go_enter Try.func9, Try.ntmps9
  go_wp2_with (first
    | (go_at_call 13; (with_reducible refine (begins_any _).mono ?_); rintro e w1 ⟨rfl, hb⟩; have HB1 := Lib.hid (HB0.out.trans (hb.mono HB0.out.size)); have HS1 := Lib.hid (HS0.out.below hb HS0.out.lt); have hs1 := HS1.out; have p0 := hs1.cell 0; have p1 := hs1.cell 1; have p2 := hs1.cell 2; have pl := hs1.lt; clear hb hs1)
    | (go_at_call 11; (with_reducible refine (HNEW.out _).mono ?_); rintro e w2 ⟨bh, bk, bw, rfl, _, _, hbw, hh, hb⟩; have HO2 : Hid (OwnAll W bh bk bw l h d m (startH m) [] w2) := Lib.hid ⟨hh, HB1.out.trans (hb.mono HB1.out.size), Nat.le_trans HB1.out.size hbw, fun i hi => by simp at hi, fun p q i j _ hp => by simp at hp⟩; have HS2 := Lib.hid (HS1.out.below hb HS1.out.lt); clear hbw hh hb))
  go_loopw [7] (fun i wr => ∃ j : Nat, j ≤ ops.length ∧ i = .int .i64 j ∧ ∃ ws, OwnAll W bh bk bw l h d m ws [] wr ∧ Row wr W.heap.size 23 [.int .i64 l, .int .i64 h, .int .i64 d]) (fun i _ => ops.length - (intOf i).toNat)
  case atStart => exact ⟨0, Nat.zero_le _, rfl, _, HO2.out, HS2.out⟩
  case round =>
    obtain ⟨j, hj, rfl, ws, hO, hS⟩ := hrel
    have HO := Lib.hid hO
    have HS := Lib.hid hS
    clear hO hS HO2 HS2 HB1 HS1
    by_cases hlt : j < ops.length
    ·
      obtain ⟨⟨k, v, n⟩, hop⟩ : ∃ op, ops[j]? = some op := ⟨ops[j], List.getElem?_eq_getElem hlt⟩
      obtain ⟨b', o', rfl, hbl, e0, e1, e2⟩ := (HE.out.on HO.out.low) j _ hop
      obtain ⟨b'', o'', hbe, hbW, _⟩ := HE.out j _ hop
      cases hbe
      have hlt2 : (j : Int) < (ops.length : Int) := by omega
      have hj3 : j * 3 ≤ 17592186044416 := by omega
      have E1 := Lib.hid e1
      have E2 := Lib.hid e2
      have HBW := Lib.hid hbW
      clear hop hbW
      dsimp only at e0 e1 e2
      go_upto_region 9 with fail
      go_region_held3 (fun w' => w'.cell? ⟨b', o' + j * 3 + 1, none⟩ = some (.int .i64 v) ∧ w'.cell? ⟨b', o' + j * 3 + 2, none⟩ = some (.int .u64 n))
        (first | (with_reducible exact ⟨e1, e2⟩) | (with_reducible exact ⟨u1, u2⟩) | go_keep)
        (first | (go_at_call 29; (with_reducible refine (hrecord_ex (w := wr.drew) (HO.out.on (Below.refl _ _).drew).hist HM.out R.out).mono ?_); rintro e w2 ⟨why, ws', rfl, hh, hP⟩; have hO2 := (HO.out.on (Below.refl _ _).drew).hist_ hh hP; have HO2 := Lib.hid hO2; have HS2 := Lib.hid (HS.out.drew.part hP (by simpa using HS.out.ne HO.out.hist.words.row (by decide))); have u1 := (hO2.low.cell (p := ⟨b', o' + j * 3 + 1, none⟩) HBW.out).trans (((HO.out.low.cell (p := ⟨b', o' + j * 3 + 1, none⟩) HBW.out).symm).trans E1.out); have u2 := (hO2.low.cell (p := ⟨b', o' + j * 3 + 2, none⟩) HBW.out).trans (((HO.out.low.cell (p := ⟨b', o' + j * 3 + 2, none⟩) HBW.out).symm).trans E2.out); clear hO2 hh hP))
      all_goals
        go_wp2_with fail
        go_roundw
        case rel => exact ⟨j + 1, by omega, by go_num, ws', HO2.out, HS2.out⟩
        case measure => simp [intOf]; omega
    · obtain rfl : j = ops.length := by omega
      have HO1 := HO
      have HS1 := HS
      have hbul : (shotH m ws).bu.length = m := by
        have := HO.out.hist.len
        simp [shotH]
        omega
      obtain ⟨f, hf⟩ : ∃ f, shotH m ws = f := ⟨_, rfl⟩
      rw [hf] at hbul
      have HF := Lib.hid hf
      have HBUL := Lib.hid hbul
      have HSHOW : Hid (∀ w0 : World, HistM w0 bh bk bw l h d m ws → Calls Try.prog 30 #[.pointer (some ⟨bh, 0, none⟩)] w0 (ShownH w0 bh bk bw l h d m ws f)) := Lib.hid (fun w0 h0 => by have := hshow_any h0 HPOS.out; rwa [hf] at this)
      have HL6 : Hid (f.bu.length ≤ 1048576) := Lib.hid (by have := HO.out.hist.few; omega)
      clear hf hbul
      go_upto_region 13 with (first
        | (go_at_call 30; (with_reducible refine (HO1.out.hist |> fun hh => HSHOW.out _ hh).mono ?_); rintro e w2 ⟨A2, c2, rfl, ho, hh, hP⟩; have hO := (HO1.out.hist_ hh hP).on ((Below.refl _ _).alloc (Nat.le_refl _) (.cells #[.int .u64 f.c, .int .u64 f.su, .int .i64 f.le, .int .i64 f.gr, .slice A2 f.bu.length c2] 44)); have HO2 := Lib.hid (HO1.out.push (i := (⟨w2.heap.size, f.c, f.su, f.le, f.gr, .slice A2 f.bu.length c2, f.bu.length, f.bu⟩ : ItemH)) hO (Row.new w2 44 _) (ho.alloc _) hP.size); have HS2 := Lib.hid ((HS1.out.part hP (by simpa using HS1.out.ne HO1.out.hist.words.row (by decide))).alloc (.cells #[.int .u64 f.c, .int .u64 f.su, .int .i64 f.le, .int .i64 f.gr, .slice A2 f.bu.length c2] 44)); clear ho hh hP hO)
        | (go_at_call 30; (with_reducible refine (HO2.out.hist |> fun hh => HSHOW.out _ hh).mono ?_); rintro e w3 ⟨A3, c3, rfl, ho, hh, hP⟩; have hO := (HO2.out.hist_ hh hP).on ((Below.refl _ _).alloc (Nat.le_refl _) (.cells #[.int .u64 f.c, .int .u64 f.su, .int .i64 f.le, .int .i64 f.gr, .slice A3 f.bu.length c3] 44)); have HO3 := Lib.hid (HO2.out.push (i := (⟨w3.heap.size, f.c, f.su, f.le, f.gr, .slice A3 f.bu.length c3, f.bu.length, f.bu⟩ : ItemH)) hO (Row.new w3 44 _) (ho.alloc _) hP.size); have HS3 := Lib.hid ((HS2.out.part hP (by simpa using HS2.out.ne HO2.out.hist.words.row (by decide))).alloc (.cells #[.int .u64 f.c, .int .u64 f.su, .int .i64 f.le, .int .i64 f.gr, .slice A3 f.bu.length c3] 44)); clear ho hh hP hO)
        | (go_at_call 24; (with_reducible refine (copyShot_any (f := f) (own_ext (HO3.out.ok _ (List.mem_append.2 (.inr (List.mem_singleton.2 rfl)))).own) HL6.out).mono ?_); rintro e w4 ⟨A4, c4, rfl, ho, hb⟩; have hO := (HO3.out.on hb).on ((Below.refl _ _).alloc (Nat.le_refl _) (.cells #[.int .u64 f.c, .int .u64 f.su, .int .i64 f.le, .int .i64 f.gr, .slice A4 f.bu.length c4] 44)); have HO4 := Lib.hid (HO3.out.push (i := (⟨w4.heap.size, f.c, f.su, f.le, f.gr, .slice A4 f.bu.length c4, f.bu.length, f.bu⟩ : ItemH)) hO (Row.new w4 44 _) (ho.alloc _) hb.size); have HS4 := Lib.hid ((HS3.out.below hb HS3.out.lt).alloc (.cells #[.int .u64 f.c, .int .u64 f.su, .int .i64 f.le, .int .i64 f.gr, .slice A4 f.bu.length c4] 44)); have hr4 := (HO4.out.ok (⟨w2.heap.size, f.c, f.su, f.le, f.gr, .slice A2 f.bu.length c2, f.bu.length, f.bu⟩ : ItemH) (by simp)).row; obtain ⟨x0, x1, x2, x3, x4⟩ := hr4.five; have xl := hr4.lt; have p0 := HS4.out.cell 0; have p1 := HS4.out.cell 1; have p2 := HS4.out.cell 2; have pl := HS4.out.lt; clear ho hb hO hr4))
      go_cut [6, 11] (fun s6 s11 wx => ∃ why bm m1 m2 m3 m4 Am nm cm xm, s6 = .int .i64 why ∧ (why = 0 ∨ why = 100) ∧ s11 = .pointer (some ⟨bm, 0, none⟩) ∧ nm ≤ 1048576 ∧ OwnAll W bh bk bw l h d m ws [(⟨w2.heap.size, f.c, f.su, f.le, f.gr, .slice A2 f.bu.length c2, f.bu.length, f.bu⟩ : ItemH), (⟨w3.heap.size, f.c, f.su, f.le, f.gr, .slice A3 f.bu.length c3, f.bu.length, f.bu⟩ : ItemH), (⟨w4.heap.size, f.c, f.su, f.le, f.gr, .slice A4 f.bu.length c4, f.bu.length, f.bu⟩ : ItemH), ⟨bm, m1, m2, m3, m4, .slice Am nm cm, nm, xm⟩] wx)
      case first =>
        go_wp2_with (go_at_call 25; (with_reducible refine (merge_any (f1 := f) (f2 := f) (own_ext (HO4.out.ok (⟨w2.heap.size, f.c, f.su, f.le, f.gr, .slice A2 f.bu.length c2, f.bu.length, f.bu⟩ : ItemH) (by simp)).own) (own_ext (HO4.out.ok (⟨w2.heap.size, f.c, f.su, f.le, f.gr, .slice A2 f.bu.length c2, f.bu.length, f.bu⟩ : ItemH) (by simp)).own) HL6.out HL6.out).mono ?_); rintro e w5 ⟨hb, hres⟩; have HB5 := Lib.hid hb; rcases hres with ⟨_, _, b', c', rfl, hlo, ho⟩ | ⟨why, hw0, hw1, rfl⟩)
        · have HO5 := Lib.hid ho
          clear hb hlo ho
          go_meet
          exact ⟨0, _, _, _, _, _, _, _, _, addU f.bu f.bu, rfl, .inl rfl, rfl, HL6.out, HO4.out.push (i := ⟨w5.heap.size, _, _, _, _, .slice (some ⟨b', 0, none⟩) f.bu.length c', f.bu.length, addU f.bu f.bu⟩) ((HO4.out.on HB5.out).on ((Below.refl _ _).alloc (Nat.le_refl _) _)) (Row.new w5 44 _) (HO5.out.alloc _) HB5.out.size⟩
        · have HW : Hid (why = 100) := Lib.hid (check_why R.out hw0 (by rcases hw1 with e | ⟨_, e⟩ <;> exact e))
          clear hb hw0 hw1
          go_meet
          exact ⟨why, _, _, _, _, _, none, 0, 0, [], rfl, .inr HW.out, rfl, Nat.zero_le _, HO4.out.push (i := ⟨w5.heap.size, 0, 0, 0, 0, .slice none 0 0, 0, []⟩) ((HO4.out.on HB5.out).on ((Below.refl _ _).alloc (Nat.le_refl _) _)) (Row.new w5 44 _) (World.ownsRow_nil _ _ _ _) HB5.out.size⟩
      case rest =>
        obtain ⟨why, bm, m1, m2, m3, m4, Am, nm, cm, xm, rfl, hwhy, rfl, hnm, hO⟩ := hcut
        have HNM := Lib.hid hnm
        have HY := Lib.hid hwhy
        obtain ⟨ga, ca, hva, _, hgal⟩ := own_some (hO.ok (⟨w2.heap.size, f.c, f.su, f.le, f.gr, .slice A2 f.bu.length c2, f.bu.length, f.bu⟩ : ItemH) (by simp)).own (show 0 < f.bu.length by have h1 := HBUL.out; have h2 := HPOS.out; omega)
        cases hva
        have HO5 := Lib.hid hO
        have hfl := HL6.out
        clear hwhy hO hgal hnm
        go_wp2
        go_loopw [12] (fun i wr => ∃ k : Nat, k ≤ f.bu.length ∧ i = .int .i64 k ∧ ∃ xs, xs.length = f.bu.length ∧ OwnAll W bh bk bw l h d m ws [⟨w2.heap.size, f.c, f.su, f.le, f.gr, .slice (some ⟨ga, 0, none⟩) f.bu.length c2, f.bu.length, xs⟩, (⟨w3.heap.size, f.c, f.su, f.le, f.gr, .slice A3 f.bu.length c3, f.bu.length, f.bu⟩ : ItemH), (⟨w4.heap.size, f.c, f.su, f.le, f.gr, .slice A4 f.bu.length c4, f.bu.length, f.bu⟩ : ItemH), ⟨bm, m1, m2, m3, m4, .slice Am nm cm, nm, xm⟩] wr) (fun i _ => f.bu.length - (intOf i).toNat)
        case atStart => exact ⟨0, Nat.zero_le _, rfl, f.bu, rfl, HO5.out⟩
        case round =>
          obtain ⟨k, hk, rfl, xs, hxl, hO⟩ := hrel
          have HO := Lib.hid hO
          have HXL := Lib.hid hxl
          have hra := (hO.ok ⟨w2.heap.size, f.c, f.su, f.le, f.gr, .slice (some ⟨ga, 0, none⟩) f.bu.length c2, f.bu.length, xs⟩ (by simp)).row
          have a4 : wr.cell? ⟨w2.heap.size, 4, none⟩ = some (.slice (some ⟨ga, 0, none⟩) f.bu.length c2) := hra.cell 4
          have al := hra.lt
          clear hO hxl hra
          by_cases hlt : k < f.bu.length
          · have hlt2 : (k : Int) < (f.bu.length : Int) := by omega
            obtain ⟨x, hx⟩ : ∃ x, xs[k]? = some x := ⟨xs[k]'(by have := HXL.out; omega), List.getElem?_eq_getElem (by have := HXL.out; omega)⟩
            have hoa := (HO.out.ok ⟨w2.heap.size, f.c, f.su, f.le, f.gr, .slice (some ⟨ga, 0, none⟩) f.bu.length c2, f.bu.length, xs⟩ (by simp)).own
            have hc := own_cell (j := k) hoa (by rw [u64s_get, hx]; rfl)
            have hf2 := hoa.frozenAt
            have gl := own_blk hoa ga rfl
            have HST : Hid (OwnAll W bh bk bw l h d m ws [⟨w2.heap.size, f.c, f.su, f.le, f.gr, .slice (some ⟨ga, 0, none⟩) f.bu.length c2, f.bu.length, (xs.set k 99)⟩, (⟨w3.heap.size, f.c, f.su, f.le, f.gr, .slice A3 f.bu.length c3, f.bu.length, f.bu⟩ : ItemH), (⟨w4.heap.size, f.c, f.su, f.le, f.gr, .slice A4 f.bu.length c4, f.bu.length, f.bu⟩ : ItemH), ⟨bm, m1, m2, m3, m4, .slice Am nm cm, nm, xm⟩] (wr.setCell ⟨ga, k, none⟩ (.int .u64 99))) := Lib.hid (HO.out.store (k := 0) (j := k) (x := 99) rfl rfl)
            clear hoa hx
            go_wp2
            go_roundw
            case rel => exact ⟨k + 1, by omega, by go_num, xs.set k 99, by rw [List.length_set]; exact HXL.out, HST.out⟩
            case measure => simp [intOf]; omega
          · obtain rfl : k = f.bu.length := by omega
            go_wp2
            go_loopw [13] (fun i wr => ∃ k : Nat, k ≤ nm ∧ i = .int .i64 k ∧ ∃ xm, OwnAll W bh bk bw l h d m ws [⟨w2.heap.size, f.c, f.su, f.le, f.gr, .slice (some ⟨ga, 0, none⟩) f.bu.length c2, f.bu.length, xs⟩, (⟨w3.heap.size, f.c, f.su, f.le, f.gr, .slice A3 f.bu.length c3, f.bu.length, f.bu⟩ : ItemH), (⟨w4.heap.size, f.c, f.su, f.le, f.gr, .slice A4 f.bu.length c4, f.bu.length, f.bu⟩ : ItemH), ⟨bm, m1, m2, m3, m4, .slice Am nm cm, nm, xm⟩] wr) (fun i _ => nm - (intOf i).toNat)
            case atStart => exact ⟨0, Nat.zero_le _, rfl, xm, HO.out⟩
            case round =>
              obtain ⟨k, hk, rfl, xm, hO⟩ := hrel
              have HN := Lib.hid hO
              have hrm := (hO.ok ⟨bm, m1, m2, m3, m4, .slice Am nm cm, nm, xm⟩ (by simp)).row
              have b4 : wr.cell? ⟨bm, 4, none⟩ = some (.slice Am nm cm) := hrm.cell 4
              have bl := hrm.lt
              have hom := (hO.ok ⟨bm, m1, m2, m3, m4, .slice Am nm cm, nm, xm⟩ (by simp)).own
              have hol := hom.1
              have HOM := Lib.hid hom
              clear hO hrm a4 al hom
              by_cases hlt : k < nm
              · have hlt2 : (k : Int) < (nm : Int) := by omega
                obtain ⟨gm, cm', hvm, _, hgml⟩ := own_some HOM.out (show 0 < nm by omega)
                cases hvm
                obtain ⟨x, hx⟩ : ∃ x, xm[k]? = some x := ⟨xm[k]'(by simp [u64s] at hol; omega), List.getElem?_eq_getElem _⟩
                have hc := own_cell (j := k) HOM.out (by rw [u64s_get, hx]; rfl)
                have hf2 := HOM.out.frozenAt
                have gl := own_blk HOM.out gm rfl
                have HST : Hid (OwnAll W bh bk bw l h d m ws [⟨w2.heap.size, f.c, f.su, f.le, f.gr, .slice (some ⟨ga, 0, none⟩) f.bu.length c2, f.bu.length, xs⟩, (⟨w3.heap.size, f.c, f.su, f.le, f.gr, .slice A3 f.bu.length c3, f.bu.length, f.bu⟩ : ItemH), (⟨w4.heap.size, f.c, f.su, f.le, f.gr, .slice A4 f.bu.length c4, f.bu.length, f.bu⟩ : ItemH), ⟨bm, m1, m2, m3, m4, .slice (some ⟨gm, 0, none⟩) nm cm, nm, (xm.set k 98)⟩] (wr.setCell ⟨gm, k, none⟩ (.int .u64 98))) := Lib.hid (HN.out.store (k := 3) (j := k) (x := 98) rfl rfl)
                have hnm := HNM.out
                clear hx hol
                go_wp2
                go_roundw
                case rel => exact ⟨k + 1, by omega, by go_num, xm.set k 98, HST.out⟩
                case measure => simp [intOf]; omega
              · obtain rfl : k = nm := by omega
                obtain ⟨va, hva⟩ : ∃ v, Value.slice (some ⟨ga, 0, none⟩) f.bu.length c2 = v := ⟨_, rfl⟩
                rw [hva] at HN
                clear hva
                have hra := (HN.out.ok ⟨w2.heap.size, f.c, f.su, f.le, f.gr, va, f.bu.length, xs⟩ (by simp)).row
                have a4 : wr.cell? ⟨w2.heap.size, 4, none⟩ = some (va) := hra.cell 4
                have al := hra.lt
                obtain ⟨i0, hi, hz0, hz1, hz2⟩ := info_parts info29
                have hoa := (HN.out.ok ⟨w2.heap.size, f.c, f.su, f.le, f.gr, va, f.bu.length, xs⟩ (by simp)).own
                have HOA := Lib.hid hoa
                have HRA := Lib.hid hra
                have H3 : Hid (f.bu.length + 2 ≤ maxLen) := Lib.hid (by unfold maxLen; omega)
                have H4 : Hid ((f.bu.length + 2) * 8 ≤ 140737488355328) := Lib.hid (by omega)
                have H5 : Hid (W.heap.size ≤ (wr.alloc (.cells #[.int .u64 1, .int .u64 2] 38)).heap.size) := Lib.hid (by have := HN.out.low.size; simp; omega)
                clear hol hra hoa
                go_upto_region 23 with (at_builtin; refine wpList_append_lies _ rfl _ _ 42 rfl W.heap.size 38 i0 (.int .u64 0) 1 8 Try.underlying42 hi hz0 hz1 hz2 rfl (by decide) _ _ _ rfl (HOA.out.alloc _) ⟨wr.heap.size, 0, none⟩ 2 2 [.int .u64 1, .int .u64 2] rfl rfl (new_cells _ _ _) two_ones (by decide) H3.out H4.out H5.out _ rfl ?_; intro g9 c9 w9 hown9 hgr9 hat9 hlt9; have hr9 := (HRA.out.alloc (.cells #[.int .u64 1, .int .u64 2] 38)).grown hgr9 (show some w2.heap.size ≠ va.ownBlock from own_not_in HOA.out HRA.out (by decide)); have r9l := hr9.lt; have r9f := hr9.free; have r94 := hr9.cell 4; have HG9 := Lib.hid (HN.out.grow (k := 0) (i := ⟨w2.heap.size, f.c, f.su, f.le, f.gr, va, f.bu.length, xs⟩) (xs' := xs ++ [1, 2]) rfl (by simpa [u64s] using hown9) hgr9 hat9); clear hown9 hgr9 hat9 hr9)
                have hitems : ∃ is9, OwnAll W bh bk bw l h d m ws is9 (w9.setCell ⟨w2.heap.size, 4, none⟩ (.slice (some ⟨g9, 0, none⟩) (f.bu.length + 2) c9)) ∧ (⟨w2.heap.size, f.c, f.su, f.le, f.gr, .slice (some ⟨g9, 0, none⟩) (f.bu.length + 2) c9, f.bu.length + 2, xs ++ [1, 2]⟩ : ItemH) ∈ is9 ∧ (⟨w3.heap.size, f.c, f.su, f.le, f.gr, .slice A3 f.bu.length c3, f.bu.length, f.bu⟩ : ItemH) ∈ is9 ∧ (⟨w4.heap.size, f.c, f.su, f.le, f.gr, .slice A4 f.bu.length c4, f.bu.length, f.bu⟩ : ItemH) ∈ is9 := ⟨_, HG9.out, by simp, by simp, by simp⟩
                obtain ⟨is9, hO9, ha9, hb9, hk9⟩ := hitems
                have HO9 := Lib.hid hO9
                have HA9 := Lib.hid ha9
                have HB9 := Lib.hid hb9
                have HK9 := Lib.hid hk9
                clear hO9 ha9 hb9 hk9 HG9 HN HOA HRA
                go_wp2_with (go_at_call 23; (with_reducible refine (hall_any HO9.out.hist).mono ?_); rintro e w10 ⟨bA, rfl, hbA, hrA, hA⟩; have HGA := Lib.hid (HO9.out.on hA); have HRW := Lib.hid hrA; have HLO := Lib.hid (Nat.le_trans HO9.out.low.size hbA); have HNB : Hid (∀ i, i ∈ is9 → ∀ q, i.v.ownBlock = some q → q ≠ bA) := Lib.hid (fun i hi q hq e => by have := own_blk (HO9.out.ok i hi).own q hq; omega); clear hbA hrA hA)
                go_loopw [15] (fun i wr => ∃ k : Nat, k ≤ ws.length ∧ i = .int .i64 k ∧ ∃ lx, lx.length = ws.length ∧ OwnAll W bh bk bw l h d m ws is9 wr ∧ Row wr bA 38 (u64s lx)) (fun i _ => ws.length - (intOf i).toNat)
                case atStart => exact ⟨0, Nat.zero_le _, rfl, ws, rfl, HGA.out, HRW.out⟩
                case round =>
                  obtain ⟨k, hk, rfl, lx, hlx, hO, hR⟩ := hrel
                  have HO := Lib.hid hO
                  have HR := Lib.hid hR
                  have HLX := Lib.hid hlx
                  have hwl : ws.length ≤ 72057594037927936 := by have h1 := hO.hist.len; have h2 := hO.hist.few; omega
                  clear hO hR hlx HGA HRW
                  by_cases hlt : k < ws.length
                  · have hlt2 : (k : Int) < (ws.length : Int) := by omega
                    obtain ⟨x, hx⟩ : ∃ x, lx[k]? = some x := ⟨lx[k]'(by have := HLX.out; omega), List.getElem?_eq_getElem _⟩
                    have hc : wr.cell? ⟨bA, k, none⟩ = some (.int .u64 x) := by rw [HR.out.cell k, u64s_get, hx]; rfl
                    have hf := HR.out.free
                    have hlt3 := HR.out.lt
                    have HST : Hid (OwnAll W bh bk bw l h d m ws is9 (wr.setCell ⟨bA, k, none⟩ (.int .u64 97))) := Lib.hid (HO.out.far HR.out HLO.out HNB.out)
                    have HRT : Hid (Row (wr.setCell ⟨bA, k, none⟩ (.int .u64 97)) bA 38 (u64s (lx.set k 97))) := Lib.hid (by rw [← u64s_set]; exact HR.out.set k _)
                    clear hx
                    go_wp2
                    go_roundw
                    case rel => exact ⟨k + 1, by omega, by go_num, lx.set k 97, by rw [List.length_set]; exact HLX.out, HST.out, HRT.out⟩
                    case measure => simp [intOf]; omega
                  · obtain rfl : k = ws.length := by omega
                    go_wp2
                    have HLL : Hid (f.bu.length ≤ 1000000000) := Lib.hid (by have := HL6.out; omega)
                    obtain ⟨b0, b1, b2, b3, b4⟩ := (HO.out.ok _ HB9.out).row.five; obtain ⟨b5, b6, b7, b8, b9⟩ := (HO.out.ok _ HK9.out).row.five; have ba := (HO.out.ok _ HA9.out).row.cell 4; dsimp only at b0 b1 b2 b3 b4 b5 b6 b7 b8 b9
                    have hfl := HL6.out
                    have HWR : Hid ((((f.bu.length : Int) + 2) == IntKind.i64.wrap ((f.bu.length : Int) + 2)) = true) := Lib.hid (by have hw : IntKind.i64.wrap ((f.bu.length : Int) + 2) = (f.bu.length : Int) + 2 := (by rw [IntKind.wrap_i64]; omega); rw [hw]; simp)
                    have hyb : (why == 0) = true ∨ ((why == 0) = false ∧ (why == 100) = true) := by rcases HY.out with rfl | rfl <;> decide
                    clear HY
                    have hfin : ∀ b : Bool, b = true → Ending.returned (Value.bool b) = Ending.returned (.bool true) := by rintro _ rfl; rfl
                    have HFIN := Lib.hid hfin
                    clear hfin
                    clear hr HB0 HS0 R HE HM HPOS HNEW HS hj HO1 HS1 HF HBUL HL6 HS3 HS4 x0 x1 x2 x3 xl p0 p1 p2 pl HO2 HS2 HO3 HO4 x4 HXL HNM HO5 bl HOM a4 al hi hz0 hz1 hz2 H3 H4 H5 hlt9 r9l r9f r94 HO9 HLO HNB HR HLX hwl hk hlt
                    rcases hyb with ew | ⟨ew, ew1⟩
                    · refine wp_region_held_drew (S := (fun w' => w'.cell? ⟨w3.heap.size, 0, none⟩ = some (.int .u64 f.c) ∧ w'.cell? ⟨w3.heap.size, 1, none⟩ = some (.int .u64 f.su) ∧ w'.cell? ⟨w3.heap.size, 2, none⟩ = some (.int .i64 f.le) ∧ w'.cell? ⟨w3.heap.size, 3, none⟩ = some (.int .i64 f.gr) ∧ w'.cell? ⟨w3.heap.size, 4, none⟩ = some (.slice A3 f.bu.length c3) ∧ w'.cell? ⟨w4.heap.size, 0, none⟩ = some (.int .u64 f.c) ∧ w'.cell? ⟨w4.heap.size, 1, none⟩ = some (.int .u64 f.su) ∧ w'.cell? ⟨w4.heap.size, 2, none⟩ = some (.int .i64 f.le) ∧ w'.cell? ⟨w4.heap.size, 3, none⟩ = some (.int .i64 f.gr) ∧ w'.cell? ⟨w4.heap.size, 4, none⟩ = some (.slice A4 f.bu.length c4) ∧ w'.cell? ⟨w2.heap.size, 4, none⟩ = some (.slice (some ⟨g9, 0, none⟩) (f.bu.length + 2) c9))) (by kernel_rfl) ?_ (fun hHeld0 => ?_)
                      · try dsimp only
                        exact ⟨b0, b1, b2, b3, b4, b5, b6, b7, b8, b9, ba⟩
                      refine wpAnyH_take (i := 0) (oi := { dst := some 100, op := Op.load 44 (Operand.tmp 9), type := 44, pos := "own.go:217", after := #[], guard := none }) (v := ?_) rfl (by kernel_rfl) (by kernel_rfl) (by kernel_rfl) (fun _ _ _ h => h) (Or.inl ⟨by rfl, ?_⟩) (by assumption) ?_
                      rotate_left
                      · intro wq hSq
                        try dsimp only at hSq
                        go_simp
                        try (with_reducible rfl)
                      try simp only [Act.put, List.setIfInBounds_toArray, List.set_cons_zero, List.set_cons_succ]
                      refine wpAnyH_take (i := 1) (oi := { dst := some 101, op := Op.load 44 (Operand.tmp 10), type := 44, pos := "own.go:217", after := #[], guard := none }) (v := ?_) rfl (by kernel_rfl) (by kernel_rfl) (by kernel_rfl) (fun _ _ _ h => h) (Or.inl ⟨by rfl, ?_⟩) (by assumption) ?_
                      rotate_left
                      · intro wq hSq
                        try dsimp only at hSq
                        go_simp
                        try (with_reducible rfl)
                      try simp only [Act.put, List.setIfInBounds_toArray, List.set_cons_zero, List.set_cons_succ]
                      refine wpAnyH_ready (rs := [2]) (by kernel_rfl) (by simp) ?_
                      refine AllReadyH.cons (o := { dst := some 102, op := Op.call { callee := Callee.value (Operand.func 20), args := #[Operand.tmp 100, Operand.tmp 101], argTypes := #[44, 44] }, type := 4, pos := "own.go:217", after := #[{ on := 0, ground := Ground.data }, { on := 1, ground := Ground.data }], guard := none }) rfl (fun K hK => ?_) AllReadyH.nil
                      go_simp
                      go_at_call 20
                      (with_reducible refine (same_yes (xs := f.bu) (own_ext ((HO.out.on (Below.refl _ _).drew).ok _ HB9.out).own) (own_ext ((HO.out.on (Below.refl _ _).drew).ok _ HK9.out).own) HLL.out).mono ?_)
                      rintro e w11 ⟨rfl, hb⟩
                      have HO11 := Lib.hid ((HO.out.on (Below.refl _ _).drew).on hb)
                      obtain ⟨v0, v1, v2, v3, v4⟩ := (HO11.out.ok _ HB9.out).row.five
                      obtain ⟨v5, v6, v7, v8, v9⟩ := (HO11.out.ok _ HK9.out).row.five
                      have va := (HO11.out.ok _ HA9.out).row.cell 4
                      dsimp only at v0 v1 v2 v3 v4 v5 v6 v7 v8 v9
                      clear hb
                      try go_wp2_with fail
                      refine hK.out _ _ ?_ (fun hHeld1 => ?_)
                      · try dsimp only
                        exact ⟨v0, v1, v2, v3, v4, v5, v6, v7, v8, v9, va⟩
                      clear hK K hHeld0
                      try simp only [Act.put, List.setIfInBounds_toArray, List.set_cons_zero, List.set_cons_succ]
                      refine wpAnyH_take (i := 3) (oi := { dst := some 103, op := Op.move (Operand.tmp 102), type := 4, pos := "own.go:217", after := #[{ on := 2, ground := Ground.data }, { on := 2, ground := Ground.chain }], guard := none }) (v := ?_) rfl (by kernel_rfl) (by kernel_rfl) (by kernel_rfl) (fun _ _ _ h => h) (Or.inl ⟨by rfl, ?_⟩) (by assumption) ?_
                      rotate_left
                      · intro wq hSq
                        try dsimp only at hSq
                        go_simp
                        try (with_reducible rfl)
                      try simp only [Act.put, List.setIfInBounds_toArray, List.set_cons_zero, List.set_cons_succ]
                      refine wpAnyH_take (i := 4) (oi := { dst := some 104, op := Op.move (Operand.tmp 5), type := 26, pos := "own.go:217", after := #[{ on := 3, ground := Ground.guard }], guard := some (3, true) }) (v := ?_) rfl (by kernel_rfl) (by kernel_rfl) (by kernel_rfl) (fun _ _ _ h => h) (Or.inl ⟨by rfl, ?_⟩) (by assumption) ?_
                      rotate_left
                      · intro wq hSq
                        try dsimp only at hSq
                        go_simp
                        try (with_reducible rfl)
                      try simp only [Act.put, List.setIfInBounds_toArray, List.set_cons_zero, List.set_cons_succ]
                      refine wpAnyH_take (i := 6) (oi := { dst := some 106, op := Op.load 44 (Operand.tmp 10), type := 44, pos := "own.go:217", after := #[{ on := 3, ground := Ground.guard }], guard := some (3, true) }) (v := ?_) rfl (by kernel_rfl) (by kernel_rfl) (by kernel_rfl) (fun _ _ _ h => h) (Or.inl ⟨by rfl, ?_⟩) (by assumption) ?_
                      rotate_left
                      · intro wq hSq
                        try dsimp only at hSq
                        go_simp
                        try (with_reducible rfl)
                      try simp only [Act.put, List.setIfInBounds_toArray, List.set_cons_zero, List.set_cons_succ]
                      refine wpAnyH_ready (rs := [5]) (by kernel_rfl) (by simp) ?_
                      refine AllReadyH.cons (o := { dst := some 105, op := Op.call { callee := Callee.value (Operand.func 30), args := #[Operand.tmp 104], argTypes := #[26] }, type := 44, pos := "own.go:217", after := #[{ on := 4, ground := Ground.data }, { on := 3, ground := Ground.chain }, { on := 3, ground := Ground.guard }], guard := some (3, true) }) rfl (fun K hK => ?_) AllReadyH.nil
                      go_simp
                      go_at_call 30
                      (with_reducible refine (HSHOW.out _ HO11.out.hist).mono ?_)
                      rintro e w12 ⟨A5, c5, rfl, ho, hh, hP⟩
                      have HO12 := Lib.hid (HO11.out.hist_ hh hP)
                      have HX := Lib.hid (own_ext ho)
                      obtain ⟨z0, z1, z2, z3, z4⟩ := (HO12.out.ok _ HB9.out).row.five
                      obtain ⟨z5, z6, z7, z8, z9⟩ := (HO12.out.ok _ HK9.out).row.five
                      have za := (HO12.out.ok _ HA9.out).row.cell 4
                      dsimp only at z0 z1 z2 z3 z4 z5 z6 z7 z8 z9
                      clear ho hh hP
                      try go_wp2_with fail
                      refine hK.out _ _ ?_ (fun hHeld2 => ?_)
                      · try dsimp only
                        exact ⟨z0, z1, z2, z3, z4, z5, z6, z7, z8, z9, za⟩
                      clear hK K hHeld1
                      try simp only [Act.put, List.setIfInBounds_toArray, List.set_cons_zero, List.set_cons_succ]
                      refine wpAnyH_ready (rs := [7]) (by kernel_rfl) (by simp) ?_
                      refine AllReadyH.cons (o := { dst := some 107, op := Op.call { callee := Callee.value (Operand.func 20), args := #[Operand.tmp 105, Operand.tmp 106], argTypes := #[44, 44] }, type := 4, pos := "own.go:217", after := #[{ on := 5, ground := Ground.data }, { on := 6, ground := Ground.data }, { on := 5, ground := Ground.chain }, { on := 3, ground := Ground.guard }], guard := some (3, true) }) rfl (fun K hK => ?_) AllReadyH.nil
                      go_simp
                      go_at_call 20
                      (with_reducible refine (same_yes (xs := f.bu) HX.out (own_ext (HO12.out.ok _ HK9.out).own) HLL.out).mono ?_)
                      rintro e w13 ⟨rfl, hb⟩
                      have HO13 := Lib.hid (HO12.out.on hb)
                      obtain ⟨y0, y1, y2, y3, y4⟩ := (HO13.out.ok _ HB9.out).row.five
                      obtain ⟨y5, y6, y7, y8, y9⟩ := (HO13.out.ok _ HK9.out).row.five
                      have ya := (HO13.out.ok _ HA9.out).row.cell 4
                      dsimp only at y0 y1 y2 y3 y4 y5 y6 y7 y8 y9
                      clear hb
                      try go_wp2_with fail
                      refine hK.out _ _ ?_ (fun hHeld3 => ?_)
                      · try dsimp only
                        exact ⟨y0, y1, y2, y3, y4, y5, y6, y7, y8, y9, ya⟩
                      clear hK K hHeld2
                      try simp only [Act.put, List.setIfInBounds_toArray, List.set_cons_zero, List.set_cons_succ]
                      refine wpAnyH_take (i := 8) (oi := { dst := some 108, op := Op.pick (Operand.tmp 103) (Operand.tmp 107) (Operand.const (Value.bool false)), type := 4, pos := "own.go:217", after := #[{ on := 3, ground := Ground.data }, { on := 7, ground := Ground.data }], guard := none }) (v := ?_) rfl (by kernel_rfl) (by kernel_rfl) (by kernel_rfl) (fun _ _ _ h => h) (Or.inl ⟨by rfl, ?_⟩) (by assumption) ?_
                      rotate_left
                      · intro wq hSq
                        try dsimp only at hSq
                        go_simp
                        try (with_reducible rfl)
                      try simp only [Act.put, List.setIfInBounds_toArray, List.set_cons_zero, List.set_cons_succ]
                      refine wpAnyH_take (i := 9) (oi := { dst := some 109, op := Op.move (Operand.tmp 108), type := 4, pos := "own.go:217", after := #[{ on := 8, ground := Ground.data }, { on := 7, ground := Ground.chain }], guard := none }) (v := ?_) rfl (by kernel_rfl) (by kernel_rfl) (by kernel_rfl) (fun _ _ _ h => h) (Or.inl ⟨by rfl, ?_⟩) (by assumption) ?_
                      rotate_left
                      · intro wq hSq
                        try dsimp only at hSq
                        go_simp
                        try (with_reducible rfl)
                      try simp only [Act.put, List.setIfInBounds_toArray, List.set_cons_zero, List.set_cons_succ]
                      refine wpAnyH_take (i := 10) (oi := { dst := some 110, op := Op.move (Operand.tmp 6), type := 27, pos := "own.go:217", after := #[{ on := 9, ground := Ground.guard }], guard := some (9, true) }) (v := ?_) rfl (by kernel_rfl) (by kernel_rfl) (by kernel_rfl) (fun _ _ _ h => h) (Or.inl ⟨by rfl, ?_⟩) (by assumption) ?_
                      rotate_left
                      · intro wq hSq
                        try dsimp only at hSq
                        go_simp
                        try (with_reducible rfl)
                      try simp only [Act.put, List.setIfInBounds_toArray, List.set_cons_zero, List.set_cons_succ]
                      refine wpAnyH_take (i := 11) (oi := { dst := some 111, op := Op.binOp BinOp.eql 27 (Operand.tmp 110) (Operand.const (Value.int IntKind.i64 0)) 27, type := 4, pos := "own.go:217", after := #[{ on := 10, ground := Ground.data }, { on := 9, ground := Ground.guard }], guard := some (9, true) }) (v := ?_) rfl (by kernel_rfl) (by kernel_rfl) (by kernel_rfl) (fun _ _ _ h => h) (Or.inl ⟨by rfl, ?_⟩) (by assumption) ?_
                      rotate_left
                      · intro wq hSq
                        try dsimp only at hSq
                        go_simp
                        try (with_reducible rfl)
                      try simp only [Act.put, List.setIfInBounds_toArray, List.set_cons_zero, List.set_cons_succ]
                      refine wpAnyH_take (i := 12) (oi := { dst := some 112, op := Op.move (Operand.tmp 111), type := 4, pos := "own.go:217", after := #[{ on := 11, ground := Ground.data }, { on := 9, ground := Ground.chain }, { on := 9, ground := Ground.guard }], guard := some (9, true) }) (v := ?_) rfl (by kernel_rfl) (by kernel_rfl) (by kernel_rfl) (fun _ _ _ h => h) (Or.inl ⟨by rfl, ?_⟩) (by assumption) ?_
                      rotate_left
                      · intro wq hSq
                        try dsimp only at hSq
                        go_simp
                        try (with_reducible rfl)
                      try simp only [Act.put, List.setIfInBounds_toArray, List.set_cons_zero, List.set_cons_succ]
                      refine wpAnyH_take (i := 13) (oi := { dst := some 113, op := Op.move (Operand.tmp 6), type := 27, pos := "own.go:217", after := #[{ on := 12, ground := Ground.guard }], guard := some (12, false) }) (v := undef) rfl (by kernel_rfl) (by kernel_rfl) (by kernel_rfl) (fun _ _ _ h => h) (Or.inr ⟨by rfl, rfl⟩) (by assumption) ?_
                      try simp only [Act.put, List.setIfInBounds_toArray, List.set_cons_zero, List.set_cons_succ]
                      refine wpAnyH_take (i := 14) (oi := { dst := some 114, op := Op.binOp BinOp.eql 27 (Operand.tmp 113) (Operand.const (Value.int IntKind.i64 100)) 27, type := 4, pos := "own.go:217", after := #[{ on := 13, ground := Ground.data }, { on := 12, ground := Ground.guard }], guard := some (12, false) }) (v := undef) rfl (by kernel_rfl) (by kernel_rfl) (by kernel_rfl) (fun _ _ _ h => h) (Or.inr ⟨by rfl, rfl⟩) (by assumption) ?_
                      try simp only [Act.put, List.setIfInBounds_toArray, List.set_cons_zero, List.set_cons_succ]
                      refine wpAnyH_take (i := 15) (oi := { dst := some 115, op := Op.pick (Operand.tmp 112) (Operand.const (Value.bool true)) (Operand.tmp 114), type := 4, pos := "own.go:217", after := #[{ on := 12, ground := Ground.data }, { on := 14, ground := Ground.data }, { on := 9, ground := Ground.guard }], guard := some (9, true) }) (v := ?_) rfl (by kernel_rfl) (by kernel_rfl) (by kernel_rfl) (fun _ _ _ h => h) (Or.inl ⟨by rfl, ?_⟩) (by assumption) ?_
                      rotate_left
                      · intro wq hSq
                        try dsimp only at hSq
                        go_simp
                        try (with_reducible rfl)
                      try simp only [Act.put, List.setIfInBounds_toArray, List.set_cons_zero, List.set_cons_succ]
                      refine wpAnyH_take (i := 16) (oi := { dst := some 116, op := Op.pick (Operand.tmp 109) (Operand.tmp 115) (Operand.const (Value.bool false)), type := 4, pos := "own.go:217", after := #[{ on := 9, ground := Ground.data }, { on := 15, ground := Ground.data }], guard := none }) (v := ?_) rfl (by kernel_rfl) (by kernel_rfl) (by kernel_rfl) (fun _ _ _ h => h) (Or.inl ⟨by rfl, ?_⟩) (by assumption) ?_
                      rotate_left
                      · intro wq hSq
                        try dsimp only at hSq
                        go_simp
                        try (with_reducible rfl)
                      try simp only [Act.put, List.setIfInBounds_toArray, List.set_cons_zero, List.set_cons_succ]
                      refine wpAnyH_take (i := 17) (oi := { dst := some 117, op := Op.move (Operand.tmp 116), type := 4, pos := "own.go:217", after := #[{ on := 16, ground := Ground.data }, { on := 12, ground := Ground.chain }], guard := none }) (v := ?_) rfl (by kernel_rfl) (by kernel_rfl) (by kernel_rfl) (fun _ _ _ h => h) (Or.inl ⟨by rfl, ?_⟩) (by assumption) ?_
                      rotate_left
                      · intro wq hSq
                        try dsimp only at hSq
                        go_simp
                        try (with_reducible rfl)
                      try simp only [Act.put, List.setIfInBounds_toArray, List.set_cons_zero, List.set_cons_succ]
                      refine wpAnyH_take (i := 18) (oi := { dst := some 118, op := Op.fieldAddr 44 (Operand.tmp 8) 4, type := 0, pos := "own.go:217", after := #[{ on := 17, ground := Ground.guard }], guard := some (17, true) }) (v := ?_) rfl (by kernel_rfl) (by kernel_rfl) (by kernel_rfl) (fun _ _ _ h => h) (Or.inl ⟨by rfl, ?_⟩) (by assumption) ?_
                      rotate_left
                      · intro wq hSq
                        try dsimp only at hSq
                        go_simp
                        try (with_reducible rfl)
                      try simp only [Act.put, List.setIfInBounds_toArray, List.set_cons_zero, List.set_cons_succ]
                      refine wpAnyH_take (i := 19) (oi := { dst := some 119, op := Op.load 42 (Operand.tmp 118), type := 42, pos := "own.go:217", after := #[{ on := 18, ground := Ground.data }, { on := 17, ground := Ground.guard }], guard := some (17, true) }) (v := ?_) rfl (by kernel_rfl) (by kernel_rfl) (by kernel_rfl) (fun _ _ _ h => h) (Or.inl ⟨by rfl, ?_⟩) (by assumption) ?_
                      rotate_left
                      · intro wq hSq
                        try dsimp only at hSq
                        go_simp
                        try (with_reducible rfl)
                      try simp only [Act.put, List.setIfInBounds_toArray, List.set_cons_zero, List.set_cons_succ]
                      refine wpAnyH_take (i := 20) (oi := { dst := some 120, op := Op.call { callee := Callee.builtin Builtin.len, args := #[Operand.tmp 119], argTypes := #[42] }, type := 3, pos := "own.go:217", after := #[{ on := 19, ground := Ground.data }, { on := 17, ground := Ground.guard }], guard := some (17, true) }) (v := ?_) rfl (by kernel_rfl) (by kernel_rfl) (by kernel_rfl) (fun _ _ _ h => h) (Or.inl ⟨by rfl, ?_⟩) (by assumption) ?_
                      rotate_left
                      · intro wq hSq
                        try dsimp only at hSq
                        go_simp
                        try (with_reducible rfl)
                      try simp only [Act.put, List.setIfInBounds_toArray, List.set_cons_zero, List.set_cons_succ]
                      refine wpAnyH_take (i := 21) (oi := { dst := some 121, op := Op.fieldAddr 44 (Operand.tmp 9) 4, type := 0, pos := "own.go:217", after := #[{ on := 17, ground := Ground.guard }], guard := some (17, true) }) (v := ?_) rfl (by kernel_rfl) (by kernel_rfl) (by kernel_rfl) (fun _ _ _ h => h) (Or.inl ⟨by rfl, ?_⟩) (by assumption) ?_
                      rotate_left
                      · intro wq hSq
                        try dsimp only at hSq
                        go_simp
                        try (with_reducible rfl)
                      try simp only [Act.put, List.setIfInBounds_toArray, List.set_cons_zero, List.set_cons_succ]
                      refine wpAnyH_take (i := 22) (oi := { dst := some 122, op := Op.load 42 (Operand.tmp 121), type := 42, pos := "own.go:217", after := #[{ on := 21, ground := Ground.data }, { on := 17, ground := Ground.guard }], guard := some (17, true) }) (v := ?_) rfl (by kernel_rfl) (by kernel_rfl) (by kernel_rfl) (fun _ _ _ h => h) (Or.inl ⟨by rfl, ?_⟩) (by assumption) ?_
                      rotate_left
                      · intro wq hSq
                        try dsimp only at hSq
                        go_simp
                        try (with_reducible rfl)
                      try simp only [Act.put, List.setIfInBounds_toArray, List.set_cons_zero, List.set_cons_succ]
                      refine wpAnyH_take (i := 23) (oi := { dst := some 123, op := Op.call { callee := Callee.builtin Builtin.len, args := #[Operand.tmp 122], argTypes := #[42] }, type := 3, pos := "own.go:217", after := #[{ on := 22, ground := Ground.data }, { on := 17, ground := Ground.guard }], guard := some (17, true) }) (v := ?_) rfl (by kernel_rfl) (by kernel_rfl) (by kernel_rfl) (fun _ _ _ h => h) (Or.inl ⟨by rfl, ?_⟩) (by assumption) ?_
                      rotate_left
                      · intro wq hSq
                        try dsimp only at hSq
                        go_simp
                        try (with_reducible rfl)
                      try simp only [Act.put, List.setIfInBounds_toArray, List.set_cons_zero, List.set_cons_succ]
                      refine wpAnyH_take (i := 24) (oi := { dst := some 124, op := Op.binOp BinOp.add 3 (Operand.tmp 123) (Operand.const (Value.int IntKind.i64 2)) 3, type := 3, pos := "own.go:217", after := #[{ on := 23, ground := Ground.data }, { on := 17, ground := Ground.guard }], guard := some (17, true) }) (v := ?_) rfl (by kernel_rfl) (by kernel_rfl) (by kernel_rfl) (fun _ _ _ h => h) (Or.inl ⟨by rfl, ?_⟩) (by assumption) ?_
                      rotate_left
                      · intro wq hSq
                        try dsimp only at hSq
                        go_simp
                        try (with_reducible rfl)
                      try simp only [Act.put, List.setIfInBounds_toArray, List.set_cons_zero, List.set_cons_succ]
                      refine wpAnyH_take (i := 25) (oi := { dst := some 125, op := Op.binOp BinOp.eql 3 (Operand.tmp 120) (Operand.tmp 124) 3, type := 4, pos := "own.go:217", after := #[{ on := 20, ground := Ground.data }, { on := 24, ground := Ground.data }, { on := 17, ground := Ground.guard }], guard := some (17, true) }) (v := ?_) rfl (by kernel_rfl) (by kernel_rfl) (by kernel_rfl) (fun _ _ _ h => h) (Or.inl ⟨by rfl, ?_⟩) (by assumption) ?_
                      rotate_left
                      · intro wq hSq
                        try dsimp only at hSq
                        go_simp
                        try (with_reducible rfl)
                      try simp only [Act.put, List.setIfInBounds_toArray, List.set_cons_zero, List.set_cons_succ]
                      refine wpAnyH_take (i := 26) (oi := { dst := some 126, op := Op.pick (Operand.tmp 117) (Operand.tmp 125) (Operand.const (Value.bool false)), type := 4, pos := "own.go:217", after := #[{ on := 17, ground := Ground.data }, { on := 25, ground := Ground.data }], guard := none }) (v := ?_) rfl (by kernel_rfl) (by kernel_rfl) (by kernel_rfl) (fun _ _ _ h => h) (Or.inl ⟨by rfl, ?_⟩) (by assumption) ?_
                      rotate_left
                      · intro wq hSq
                        try dsimp only at hSq
                        go_simp
                        try (with_reducible rfl)
                      try simp only [Act.put, List.setIfInBounds_toArray, List.set_cons_zero, List.set_cons_succ]
                      refine wpAnyH_take (i := 27) (oi := { dst := some 4, op := Op.assign (Operand.tmp 126), type := 4, pos := "own.go:217", after := _, guard := none }) (v := ?_) rfl (by kernel_rfl) (by kernel_rfl) (by kernel_rfl) (fun _ _ _ h => h) (Or.inl ⟨by rfl, ?_⟩) (by assumption) ?_
                      rotate_left
                      · intro wq hSq
                        try dsimp only at hSq
                        go_simp
                        try (with_reducible rfl)
                      try simp only [Act.put, List.setIfInBounds_toArray, List.set_cons_zero, List.set_cons_succ]
                      refine wpAnyH_done (by kernel_rfl) ?_ _
                      go_wp2_with fail
                      go_ret
                      first | exact ⟨rfl, HO13.out.low⟩ | exact ⟨HFIN.out _ HWR.out, HO13.out.low⟩
                    · go_region_held3 (fun w' => w'.cell? ⟨w3.heap.size, 0, none⟩ = some (.int .u64 f.c) ∧ w'.cell? ⟨w3.heap.size, 1, none⟩ = some (.int .u64 f.su) ∧ w'.cell? ⟨w3.heap.size, 2, none⟩ = some (.int .i64 f.le) ∧ w'.cell? ⟨w3.heap.size, 3, none⟩ = some (.int .i64 f.gr) ∧ w'.cell? ⟨w3.heap.size, 4, none⟩ = some (.slice A3 f.bu.length c3) ∧ w'.cell? ⟨w4.heap.size, 0, none⟩ = some (.int .u64 f.c) ∧ w'.cell? ⟨w4.heap.size, 1, none⟩ = some (.int .u64 f.su) ∧ w'.cell? ⟨w4.heap.size, 2, none⟩ = some (.int .i64 f.le) ∧ w'.cell? ⟨w4.heap.size, 3, none⟩ = some (.int .i64 f.gr) ∧ w'.cell? ⟨w4.heap.size, 4, none⟩ = some (.slice A4 f.bu.length c4) ∧ w'.cell? ⟨w2.heap.size, 4, none⟩ = some (.slice (some ⟨g9, 0, none⟩) (f.bu.length + 2) c9))
                        (first | (with_reducible exact ⟨b0, b1, b2, b3, b4, b5, b6, b7, b8, b9, ba⟩) | (with_reducible exact ⟨v0, v1, v2, v3, v4, v5, v6, v7, v8, v9, va⟩) | (with_reducible exact ⟨z0, z1, z2, z3, z4, z5, z6, z7, z8, z9, za⟩) | (with_reducible exact ⟨y0, y1, y2, y3, y4, y5, y6, y7, y8, y9, ya⟩) | go_keep)
                        (first
                          | (go_at_call 20; (with_reducible refine (same_yes (xs := f.bu) (own_ext ((HO.out.on (Below.refl _ _).drew).ok _ HB9.out).own) (own_ext ((HO.out.on (Below.refl _ _).drew).ok _ HK9.out).own) HLL.out).mono ?_); rintro e w11 ⟨rfl, hb⟩; have HO11 := Lib.hid ((HO.out.on (Below.refl _ _).drew).on hb); obtain ⟨v0, v1, v2, v3, v4⟩ := (HO11.out.ok _ HB9.out).row.five; obtain ⟨v5, v6, v7, v8, v9⟩ := (HO11.out.ok _ HK9.out).row.five; have va := (HO11.out.ok _ HA9.out).row.cell 4; dsimp only at v0 v1 v2 v3 v4 v5 v6 v7 v8 v9; clear hb)
                          | (go_at_call 30; (with_reducible refine (HSHOW.out _ HO11.out.hist).mono ?_); rintro e w12 ⟨A5, c5, rfl, ho, hh, hP⟩; have HO12 := Lib.hid (HO11.out.hist_ hh hP); have HX := Lib.hid (own_ext ho); obtain ⟨z0, z1, z2, z3, z4⟩ := (HO12.out.ok _ HB9.out).row.five; obtain ⟨z5, z6, z7, z8, z9⟩ := (HO12.out.ok _ HK9.out).row.five; have za := (HO12.out.ok _ HA9.out).row.cell 4; dsimp only at z0 z1 z2 z3 z4 z5 z6 z7 z8 z9; clear ho hh hP)
                          | (go_at_call 20; (with_reducible refine (same_yes (xs := f.bu) HX.out (own_ext (HO12.out.ok _ HK9.out).own) HLL.out).mono ?_); rintro e w13 ⟨rfl, hb⟩; have HO13 := Lib.hid (HO12.out.on hb); obtain ⟨y0, y1, y2, y3, y4⟩ := (HO13.out.ok _ HB9.out).row.five; obtain ⟨y5, y6, y7, y8, y9⟩ := (HO13.out.ok _ HK9.out).row.five; have ya := (HO13.out.ok _ HA9.out).row.cell 4; dsimp only at y0 y1 y2 y3 y4 y5 y6 y7 y8 y9; clear hb))
                      go_wp2_with fail
                      go_ret
                      first | exact ⟨rfl, HO13.out.low⟩ | exact ⟨HFIN.out _ HWR.out, HO13.out.low⟩
end Go.Proofs.Ytgmknhogogobjaa
