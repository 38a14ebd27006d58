/- THE WALK of the law 'HistSteps'. -/
import Derived.Test.YtiifhkfkcljoiaaJw
import Derived.Deep.RegionHeld3
namespace Go.Proofs.Ytiifhkfkcljoiaa
open Go Go.RowKit
set_option maxRecDepth 100000
theorem hallK_any {w : World} {bh bk bw m : Nat} {l h d : Int} {ws : List Int} (hs : HistM w bh bk bw l h d m ws) : Calls Try.prog 22 #[.pointer (some ⟨bh, 0, none⟩)] w (Copied w ws) := by
  have c4 : w.cell? ⟨bh, 4, none⟩ = some (.pointer (some ⟨bk, 0, none⟩)) := hs.head.cell 4
  have HS := Lib.hid hs
  clear hs
  go_enter Try.func22, Try.ntmps22
  go_wp2_with (go_at_call 44; (with_reducible refine (all_any HS.out.words).mono ?_); rintro e w2 ⟨b, rfl, h1, h2, h3⟩; have H1 := Lib.hid h1; have H2 := Lib.hid h2; have H3 := Lib.hid h3; clear h1 h2 h3)
  go_ret
  exact ⟨b, rfl, H1.out, H2.out, H3.out⟩
theorem right_at {l h d : Int} {b : Bool} (h9 : Sc.rightB l h d = b) (w : World) : Calls Try.prog 11 #[.agg #[.int .i64 l, .int .i64 h, .int .i64 d]] w fun e w' => e = .returned (.bool b) ∧ Below w.heap.size w w' := by
  subst h9
  exact Sc.right_any l h d w
theorem dright_at {l h d k v n : Int} {b : Bool} (h9 : rightO h k v n = b) (hn : 0 ≤ n) (w : World) : Calls Try.prog 14 #[.agg #[.int .i64 l, .int .i64 h, .int .i64 d], .agg #[.int .u8 k, .int .i64 v, .int .u64 n]] w fun e w' => e = .returned (.bool b) ∧ Below w.heap.size w w' := by
  subst h9
  exact dright_any hn w
theorem histSteps_no {l h d : Int} (r : Sc.rightB l h d = false) {A B : Option Addr} {len cap len' cap' : Nat} (W : World) : Calls Try.prog 3 #[.agg #[.int .i64 l, .int .i64 h, .int .i64 d], .slice A len cap, .slice B len' cap'] W fun e w' => e = .returned (.bool true) ∧ Below W.heap.size W w' := by
  have HB0 := Lib.hid (show Below W.heap.size W (W.alloc (.cells #[.int .i64 l, .int .i64 h, .int .i64 d] 23)) from (Below.refl _ _).alloc (Nat.le_refl _) _)
  have HS0 := Lib.hid (Row.new W 23 [.int .i64 l, .int .i64 h, .int .i64 d])
  have R := Lib.hid r
  clear r
  go_enter Try.func3, Try.ntmps3
  go_wp2_with (first
    | (go_at_call 12; (with_reducible refine (begins_any _).mono ?_); rintro e w4 ⟨rfl, hb⟩; have HB4 := Lib.hid (HB3.out.trans (hb.mono HB3.out.size)); clear hb)
    | (go_at_call 11; (with_reducible refine (right_at R.out _).mono ?_); rintro e w3 ⟨rfl, hb⟩; have HB3 := Lib.hid (HB2.out.trans (hb.mono HB2.out.size)); clear hb)
    | (go_at_call 10; (with_reducible refine (hnew_no R.out _).mono ?_); rintro e w2 ⟨rfl, hb⟩; have HB2 := Lib.hid (HB0.out.trans (hb.mono HB0.out.size)); have HS2 := Lib.hid (HS0.out.below hb HS0.out.lt); have hs2 := HS2.out; have p0 := hs2.cell 0; have p1 := hs2.cell 1; have p2 := hs2.cell 2; have pl := hs2.lt; clear hb hs2))
  go_ret
  exact ⟨rfl, HB4.out⟩
def did_setH (w : World) (b : Nat) (d0 d1 d2 d3 : Int) (d4 : Bool) : World := ((((w.setCell ⟨b, 0, none⟩ (.int .u8 d0)).setCell ⟨b, 1, none⟩ (.int .i64 d1)).setCell ⟨b, 2, none⟩ (.int .u64 d2)).setCell ⟨b, 3, none⟩ (.int .u64 d3)).setCell ⟨b, 4, none⟩ (.bool d4)
theorem did_partH (w : World) (b : Nat) (d0 d1 d2 d3 : Int) (d4 : Bool) : Part [b] w (did_setH w b d0 d1 d2 d3 d4) :=
  (((((Part.refl [b] w).set (by simp) _).set (by simp) _).set (by simp) _).set (by simp) _).set (by simp) _
theorem did_rowH {w : World} {b : Nat} {x0 x1 x2 x3 x4 : Value} {d0 d1 d2 d3 : Int} {d4 : Bool} (h : Row w b 50 [x0, x1, x2, x3, x4]) : Row (did_setH w b d0 d1 d2 d3 d4) b 50 [.int .u8 d0, .int .i64 d1, .int .u64 d2, .int .u64 d3, .bool d4] :=
  ((((h.set 0 _).set 1 _).set 2 _).set 3 _).set 4 _
theorem undSet_is {w : World} {g i : Nat} {o : OpH} {s : DocD} {last : Bool} (h1 : o.en = last) : undSet w g i o s = ((((((((((((w.setCell ⟨g, i, none⟩ (.int .u8 o.k)).setCell ⟨g, i + 1, none⟩ (.int .i64 o.v)).setCell ⟨g, i + 2, none⟩ (.int .u64 o.n)).setCell ⟨g, i + 3, none⟩ (.int .i64 (o.at_ : Int))).setCell ⟨g, i + 4, none⟩ (.bool o.ld)).setCell ⟨g, i + 5, none⟩ (.int .u64 s.1)).setCell ⟨g, i + 6, none⟩ (.bool last)).setCell ⟨g, i + 7, none⟩ (.int .u64 o.c)).setCell ⟨g, i + 8, none⟩ (.int .u64 o.su)).setCell ⟨g, i + 9, none⟩ (.int .i64 o.le)).setCell ⟨g, i + 10, none⟩ (.int .i64 o.gr)).setCell ⟨g, i + 11, none⟩ (.slice s.2.1 o.bu.length s.2.2)) := by
  subst h1
  rfl
theorem row_ext {w : World} {b : Nat} {xs : List Int} (h : Row w b 38 (u64s xs)) : Ext .u64 w (some ⟨b, 0, none⟩) xs := fun j x hx => ⟨b, 0, rfl, h.lt, by rw [Nat.zero_add]; exact (h.cell j).trans (by rw [u64s_get, hx]; rfl)⟩

set_option maxHeartbeats 51200000 in
theorem histSteps_yes {l h d : Int} (r : Sc.rightB l h d = true) {A0 B0 : Option Addr} {cap cap' : Nat} {ops : List (Int × Int × Int)} {sch : List Int} (W : World) (hE : Ext3 .u8 .i64 .u64 W A0 ops) (hu : ∀ op ∈ ops, 0 ≤ op.2.2) (hr : ops.length ≤ 1048576) (hX : Ext .i64 W B0 sch) (hr' : sch.length ≤ 1048576) : Calls Try.prog 3 #[.agg #[.int .i64 l, .int .i64 h, .int .i64 d], .slice A0 ops.length cap, .slice B0 sch.length cap'] W fun e w' => e = .returned (.bool true) ∧ Below W.heap.size W w' := by
  obtain ⟨ip, hip, hp0, hp1, hp2⟩ := info_parts infoPH
  obtain ⟨iu, hiu, hu0, hu1, hu2⟩ := info_parts infoUN
  have HB0 := Lib.hid (show Below W.heap.size W (W.alloc (.cells #[.int .i64 l, .int .i64 h, .int .i64 d] 23)) from (Below.refl _ _).alloc (Nat.le_refl _) _)
  have HS0 := Lib.hid (Row.new W 23 [.int .i64 l, .int .i64 h, .int .i64 d])
  have RR := Lib.hid r
  have HE := Lib.hid hE
  have HX := Lib.hid hX
  have HU := Lib.hid hu
  obtain ⟨m, hm⟩ : ∃ m, Sc.cnt l h d = m := ⟨_, rfl⟩
  have HM : Hid (m = Sc.cnt l h d) := Lib.hid hm.symm
  have HM3 : Hid (3 ≤ m) := Lib.hid (by rw [← hm]; exact (cnt_few r).1)
  have HPOS : Hid (0 < m) := Lib.hid (by rw [← hm]; have := (cnt_few r).1; omega)
  have hnew := fun w => hnew_yes r w
  unfold NewH at hnew
  rw [hm] at hnew
  have HNEW := Lib.hid hnew
  have hcells := fun w => dcells_any r w
  rw [hm] at hcells
  have HCELLS := Lib.hid hcells
  clear r hE hX hu hm hnew hcells
  go_enter Try.func3, Try.ntmps3
  go_wp2_with (first
    | (go_at_call 10; (with_reducible refine (HNEW.out _).mono ?_); rintro e w1 ⟨bh, bk, bw, rfl, _, _, hbw, hh, hb⟩; have HS1 := Lib.hid (HS0.out.below hb HS0.out.lt); have HH1 := Lib.hid hh; have HB1 := Lib.hid hb; have HBW := Lib.hid hbw; have hs1 := HS1.out; have p0 := hs1.cell 0; have p1 := hs1.cell 1; have p2 := hs1.cell 2; have pl := hs1.lt; clear hbw hh hb hs1)
    | (go_at_call 11; (with_reducible refine (right_at RR.out _).mono ?_); rintro e w2 ⟨rfl, hb⟩; have HO1 := Lib.hid ((Both1.nil HH1.out HB0.out HBW.out HB1.out HS1.out).on hb); clear hb))
  go_loopw [10, 11, 12] (fun vu vp u wr => ∃ j : Nat, j ≤ ops.length ∧ u = .int .i64 j ∧ ∃ bs xs, Both1 W bh bk bw l h d m (startH m) (pickH l h d (ops.take j)) bs xs vp vu wr) (fun _ _ u _ => ops.length - (intOf u).toNat)
  case atStart => exact ⟨0, Nat.zero_le _, rfl, [], [], HO1.out⟩
  case round =>
    obtain ⟨j, hj, rfl, bs, xs, hM⟩ := hrel
    have HK := Lib.hid hM
    clear hM HO1 HS0 HS1 HH1 HB1 HBW HB0 HNEW
    by_cases hlt : j < ops.length
    · obtain ⟨⟨k, v, n⟩, hop⟩ : ∃ op, ops[j]? = some op := ⟨ops[j], List.getElem?_eq_getElem hlt⟩
      obtain ⟨b', o, rfl, hbW, e0, e1, e2⟩ := HE.out j _ hop
      have HN0 : Hid (0 ≤ n) := Lib.hid (HU.out _ (List.mem_of_getElem? hop))
      dsimp only at e0 e1 e2
      have hb' : b' < wr.heap.size := Nat.lt_of_lt_of_le hbW HK.out.beg.low.size
      have q0 := (HK.out.beg.low.cell (p := ⟨b', o + j * 3, none⟩) hbW).trans e0
      have q1 := (HK.out.beg.low.cell (p := ⟨b', o + j * 3 + 1, none⟩) hbW).trans e1
      have q2 := (HK.out.beg.low.cell (p := ⟨b', o + j * 3 + 2, none⟩) hbW).trans e2
      have E0 := Lib.hid e0
      have E1 := Lib.hid e1
      have E2 := Lib.hid e2
      have HBW := Lib.hid hbW
      have hlt2 : (j : Int) < (ops.length : Int) := by omega
      have hj3 : j * 3 ≤ 17592186044416 := by omega
      have HT := Lib.hid (pickH_take (l := l) (h := h) (d := d) ops hop)
      have HPL := Lib.hid (pickH_length (l := l) (h := h) (d := d) (ops.take j))
      clear hop hbW e0 e1 e2
      cases hR : rightO h k v n with
      | false =>
        have HR := Lib.hid hR
        clear hR
        go_upto_region 13 with (go_at_call 13; (with_reducible refine (hstart_no HK.out.beg.hist RR.out HR.out).mono ?_); rintro e w4 ⟨rfl, hb4⟩; have HK4 := Lib.hid (HK.out.on hb4); have z0 := (HK4.out.beg.low.cell (p := ⟨b', o + j * 3, none⟩) HBW.out).trans E0.out; have z1 := (HK4.out.beg.low.cell (p := ⟨b', o + j * 3 + 1, none⟩) HBW.out).trans E1.out; have z2 := (HK4.out.beg.low.cell (p := ⟨b', o + j * 3 + 2, none⟩) HBW.out).trans E2.out; have hs9 := HK4.out.sc; have s0 := hs9.cell 0; have s1 := hs9.cell 1; have s2 := hs9.cell 2; have sl := hs9.lt; clear hs9; clear hb4)
        go_region_held3 (fun w' => w'.cell? ⟨b', o + j * 3, none⟩ = some (.int .u8 k) ∧ w'.cell? ⟨b', o + j * 3 + 1, none⟩ = some (.int .i64 v) ∧ w'.cell? ⟨b', o + j * 3 + 2, none⟩ = some (.int .u64 n) ∧ w'.cell? ⟨W.heap.size, 0, none⟩ = some (.int .i64 l) ∧ w'.cell? ⟨W.heap.size, 1, none⟩ = some (.int .i64 h) ∧ w'.cell? ⟨W.heap.size, 2, none⟩ = some (.int .i64 d))
          (first | (with_reducible exact ⟨y0, y1, y2, t0, t1, t2⟩) | (with_reducible exact ⟨z0, z1, z2, s0, s1, s2⟩) | go_keep)
          (first | (go_at_call 14; (with_reducible refine (dright_at HR.out HN0.out _).mono ?_); rintro e w5 ⟨rfl, hb5⟩; have HK5 := Lib.hid (HK4.out.on ((Below.refl _ _).drew.trans hb5)); have y0 := (HK5.out.beg.low.cell (p := ⟨b', o + j * 3, none⟩) HBW.out).trans E0.out; have y1 := (HK5.out.beg.low.cell (p := ⟨b', o + j * 3 + 1, none⟩) HBW.out).trans E1.out; have y2 := (HK5.out.beg.low.cell (p := ⟨b', o + j * 3 + 2, none⟩) HBW.out).trans E2.out; have hs9 := HK5.out.sc; have t0 := hs9.cell 0; have t1 := hs9.cell 1; have t2 := hs9.cell 2; have tl := hs9.lt; clear hs9; clear hb5))
        all_goals
          go_wp2_with fail
          go_roundw
          case rel => exact ⟨j + 1, by omega, by go_num, bs, xs, by rw [HT.out]; simp only [HR.out]; rw [if_neg (by simp), List.append_nil]; exact HK5.out⟩
          case measure => simp [intOf]; omega
      | true =>
        have HR := Lib.hid hR
        have N12O : Hid (∀ u ∈ ([.int .u8 k, .int .i64 v, .int .u64 n, .int .i64 0, .bool false, .int .u64 0, .bool false, .int .u64 0, .int .u64 0, .int .i64 0, .int .i64 0, .slice none 0 0] : List Value), u.oneCell' = true) := Lib.hid (by have := und_one (opH l d k v n) zD; rw [opH_und hR] at this; exact this)
        clear hR
        have HLL : Hid (bs.length + 1 ≤ ops.length) := Lib.hid (by have h1 := HK.out.len; have h2 := HPL.out; rw [List.length_take] at h2; omega)
        have H3 : Hid (bs.length + 1 ≤ maxLen) := Lib.hid (by have := HLL.out; unfold maxLen; omega)
        have H4 : Hid ((bs.length + 1) * 8 ≤ 140737488355328) := Lib.hid (by have := HLL.out; omega)
        have H6 : Hid ((bs.length + 1) * 112 ≤ 140737488355328) := Lib.hid (by have := HLL.out; omega)
        go_upto_region 13 with (go_at_call 13; (with_reducible refine (hstart_yes HK.out.beg.hist RR.out HR.out).mono ?_); rintro e w4 ⟨bp, nx, rfl, hn4, hr4, hx4, hb4⟩; have HB4 := Lib.hid hb4; have HN4 := Lib.hid hn4; have HR4 := Lib.hid hr4; have HX4 := Lib.hid hx4; have HK4 := Lib.hid (HK.out.on hb4); have z0 := (HK4.out.beg.low.cell (p := ⟨b', o + j * 3, none⟩) HBW.out).trans E0.out; have z1 := (HK4.out.beg.low.cell (p := ⟨b', o + j * 3 + 1, none⟩) HBW.out).trans E1.out; have z2 := (HK4.out.beg.low.cell (p := ⟨b', o + j * 3 + 2, none⟩) HBW.out).trans E2.out; have hs9 := HK4.out.sc; have s0 := hs9.cell 0; have s1 := hs9.cell 1; have s2 := hs9.cell 2; have sl := hs9.lt; clear hs9; clear hb4 hn4 hr4 hx4)
        go_region_held3 (fun w' => w'.cell? ⟨b', o + j * 3, none⟩ = some (.int .u8 k) ∧ w'.cell? ⟨b', o + j * 3 + 1, none⟩ = some (.int .i64 v) ∧ w'.cell? ⟨b', o + j * 3 + 2, none⟩ = some (.int .u64 n) ∧ w'.cell? ⟨W.heap.size, 0, none⟩ = some (.int .i64 l) ∧ w'.cell? ⟨W.heap.size, 1, none⟩ = some (.int .i64 h) ∧ w'.cell? ⟨W.heap.size, 2, none⟩ = some (.int .i64 d))
          (first | (with_reducible exact ⟨y0, y1, y2, t0, t1, t2⟩) | (with_reducible exact ⟨z0, z1, z2, s0, s1, s2⟩) | go_keep)
          (first | (go_at_call 14; (with_reducible refine (dright_at HR.out HN0.out _).mono ?_); rintro e w5 ⟨rfl, hb5⟩; have hd5 := (Below.refl _ _).drew.trans hb5; have HB5 := Lib.hid (HB4.out.trans (hd5.mono HB4.out.size)); have HR5 := Lib.hid (HR4.out.below hd5 HR4.out.lt); have HX5 := Lib.hid (HX4.out.on hd5); have HK5 := Lib.hid (HK4.out.on hd5); have y0 := (HK5.out.beg.low.cell (p := ⟨b', o + j * 3, none⟩) HBW.out).trans E0.out; have y1 := (HK5.out.beg.low.cell (p := ⟨b', o + j * 3 + 1, none⟩) HBW.out).trans E1.out; have y2 := (HK5.out.beg.low.cell (p := ⟨b', o + j * 3 + 2, none⟩) HBW.out).trans E2.out; have hs9 := HK5.out.sc; have t0 := hs9.cell 0; have t1 := hs9.cell 1; have t2 := hs9.cell 2; have tl := hs9.lt; clear hs9; have H5 : Hid (W.heap.size ≤ (w5.alloc (.cells #[.int .u8 k, .int .i64 v, .int .u64 n, .int .i64 0, .bool false, .int .u64 0, .bool false, .int .u64 0, .int .u64 0, .int .i64 0, .int .i64 0, .slice none 0 0] 46)).heap.size) := Lib.hid (by have := HK5.out.beg.low.size; simp; omega); clear hb5 hd5))
        all_goals
          go_wp2_with (first
            | (at_builtin; refine wpList_append_lies _ rfl _ _ 32 rfl W.heap.size 46 iu (.agg #[.int .u8 0, .int .i64 0, .int .u64 0, .int .i64 0, .bool false, .int .u64 0, .bool false, .int .u64 0, .int .u64 0, .int .i64 0, .int .i64 0, .slice none 0 0]) 12 112 Try.underlying32 hiu hu0 hu1 hu2 rfl (by decide) _ _ _ rfl (HK5.out.und.alloc _) ⟨w5.heap.size, 0, none⟩ 1 1 [.int .u8 k, .int .i64 v, .int .u64 n, .int .i64 0, .bool false, .int .u64 0, .bool false, .int .u64 0, .int .u64 0, .int .i64 0, .int .i64 0, .slice none 0 0] rfl rfl (new_cells _ _ _) N12O.out (by decide) H3.out H6.out H5.out _ rfl ?_; intro g6 c6 w6 hown6 hgr6 hat6 hlt6; have HO6 := Lib.hid hown6; have HG6 := Lib.hid hgr6; have hlow6 := (HK5.out.beg.low.alloc HK5.out.beg.low.size _).grown hgr6 H5.out (own_from HK5.out.und); have PS6 := Lib.hid (((HK5.out.beg.ps.alloc _).kept hgr6 (own_apart HK5.out.beg.ps HK5.out.und (by decide)))); have H7 : Hid (W.heap.size ≤ (w6.alloc (.cells #[.pointer (some ⟨bp, 0, none⟩)] 34)).heap.size) := Lib.hid (by have := hlow6.size; simp; omega); clear hown6 hgr6 hat6 hlow6)
            | (at_builtin; refine wpList_append_lies _ rfl _ _ 33 rfl W.heap.size 34 ip (.pointer none) 1 8 Try.underlying33 hip hp0 hp1 hp2 rfl (by decide) _ _ _ rfl (PS6.out.alloc _) ⟨w6.heap.size, 0, none⟩ 1 1 [.pointer (some ⟨bp, 0, none⟩)] rfl rfl (new_cells _ _ _) (one_ptr _) (by decide) H3.out H4.out H7.out _ rfl ?_; intro g7 c7 w7 hown7 hgr7 hat7 hlt7; have HO7 := Lib.hid hown7; have HG7 := Lib.hid hgr7; have HT7 := Lib.hid hat7; clear hown7 hgr7 hat7))
          go_roundw
          case rel => exact ⟨j + 1, by omega, by go_num, bs ++ [bp], xs ++ [(nx, zeroS)], by rw [HT.out]; simp only [HR.out, if_true]; exact HK.out.grow HB5.out HR5.out HX5.out HN4.out (by rw [HM.out]; exact op_ok RR.out HR.out) (FixH.new HR.out) opH_new.1 opH_new.2 (by rw [opH_und HR.out]; exact HO6.out) HG6.out HO7.out HG7.out HT7.out⟩
          case measure => simp [intOf]; omega
    · obtain rfl : j = ops.length := by omega
      have HLL : Hid (bs.length ≤ ops.length) := Lib.hid (by have h1 := HK.out.len; have h2 := pickH_length (l := l) (h := h) (d := d) (ops.take ops.length); rw [List.length_take] at h2; omega)
      have hnl : bs.length ≤ 1048576 := by have := HLL.out; omega
      obtain ⟨pa, pc, rfl⟩ := own_form HK.out.beg.ps
      obtain ⟨ua, uc, rfl⟩ := own_form HK.out.und
      have hs9 := HK.out.sc; have s0 := hs9.cell 0; have s1 := hs9.cell 1; have s2 := hs9.cell 2; have sl := hs9.lt; clear hs9
      go_wp2_with (go_at_call 15; (with_reducible refine (HCELLS.out _).mono ?_); rintro e w2 ⟨ga, ca, rfl, hEa, hga, hga2, hb⟩; have HA2 := Lib.hid (HK.out.both hb hEa hga hga2); clear hEa hga hga2 hb)
      go_loopw [16, 17] (fun cv u wr => ∃ j : Nat, j ≤ sch.length ∧ u = .int .i64 j ∧ ∃ us xs A ws nA, cv = .slice A ws.length nA ∧ Both2 W bh bk bw l h d m ws us bs xs (.slice pa bs.length pc) A (.slice ua bs.length uc) wr) (fun _ u _ => sch.length - (intOf u).toNat)
      case atStart => exact ⟨0, Nat.zero_le _, rfl, _, _, _, _, _, rfl, HA2.out⟩
      case round =>
        obtain ⟨j, hj, rfl, us, xs2, A, ws, nA, rfl, hA⟩ := hrel
        have HA := Lib.hid hA
        clear hA HK HA2 s0 s1 s2 sl
        by_cases hlt : j < sch.length
        · obtain ⟨k, hk⟩ : ∃ k, sch[j]? = some k := ⟨sch[j], List.getElem?_eq_getElem hlt⟩
          obtain ⟨b', o', rfl, hlt', q0⟩ := (HX.out.on HA.out.many.low) j _ hk
          have hlt2 : (j : Int) < (sch.length : Int) := by omega
          clear hk
          by_cases hk0 : k < 0
          · go_wp2
            go_roundw
            case rel => exact ⟨j + 1, by omega, by go_num, us, xs2, A, ws, nA, rfl, HA.out⟩
            case measure => simp [intOf]; omega
          by_cases hkn : (bs.length : Int) ≤ k
          · go_wp2
            go_roundw
            case rel => exact ⟨j + 1, by omega, by go_num, us, xs2, A, ws, nA, rfl, HA.out⟩
            case measure => simp [intOf]; omega
          obtain ⟨q, rfl⟩ := Int.eq_ofNat_of_zero_le (show 0 ≤ k by omega)
          have hqn : q < bs.length := by omega
          obtain ⟨o, s, b, x, g, c, gu, cu, hq, hb, hx, hv, hv2, hc, hp⟩ := HA.out.get hqn
          cases hv
          cases hv2
          have hq2 : (q : Int) < (bs.length : Int) := by omega
          have hgl : g < wr.heap.size := World.block_lt_of_cell? _ _ hc
          have HQ := Lib.hid hq
          have HBb := Lib.hid hb
          have HXq := Lib.hid hx
          have HP := Lib.hid hp
          have HFEW := Lib.hid HA.out.many.hist.few
          have HLEN := Lib.hid HA.out.many.hist.len
          have HM1 : Hid (m ≠ 1) := Lib.hid (by have := HM3.out; omega)
          clear hq hb hx hp
          cases hen : o.en with
          | true =>
            have HEN := Lib.hid hen
            have HBUL : Hid (o.bu.length ≤ 17592186044416) := Lib.hid (by have h1 := HP.out.next.wf; have h2 := HFEW.out; rcases h1 with ⟨_, e, _⟩ | ⟨_, _, ⟨e, _⟩ | ⟨_, ⟨e, _⟩ | ⟨_, e⟩⟩⟩ <;> first | omega | (rw [hen] at e; cases e) | (rw [e]; simp))
            clear hen
            go_upto_region 31 with (go_at_call 16; (with_reducible refine (hover_at HP.out.row HP.out.next HEN.out).mono ?_); rintro e w2 ⟨rfl, hb2⟩; have HA2 := Lib.hid (HA.out.on hb2); obtain ⟨c0, c1, c2, c3, c4, c5, c6, c7, c8, c9, c10, c11⟩ := und_cells HA2.out.doc.und HQ.out; rw [HEN.out] at c6; have hgul : gu < w2.heap.size := World.block_lt_of_cell? _ _ c0; clear hb2)
            obtain ⟨wz, hz⟩ : ∃ wz, (w2.alloc (.cells #[.int .u8 0, .int .i64 0, .int .u64 0, .int .u64 0, .bool false] 50)).alloc (.cells #[.int .u8 0, .int .i64 0, .int .u64 0, .int .u64 0, .bool false] 50) = wz := ⟨_, rfl⟩
            obtain ⟨b1, hb1⟩ : ∃ b1, w2.heap.size = b1 := ⟨_, rfl⟩
            obtain ⟨b2, hb2⟩ : ∃ b2, w2.heap.size + 1 = b2 := ⟨_, rfl⟩
            have HBz : Hid (Both2 W bh bk bw l h d m ws us bs xs2 (.slice (some ⟨g, 0, none⟩) bs.length pc) A (.slice (some ⟨gu, 0, none⟩) bs.length uc) wz) := Lib.hid (by rw [← hz]; exact (HA2.out.alloc _).alloc _)
            have HD1 : Hid (Row wz b1 50 [.int .u8 0, .int .i64 0, .int .u64 0, .int .u64 0, .bool false]) := Lib.hid (by rw [← hz, ← hb1]; exact (Row.new w2 _ _).alloc _)
            have HD2 : Hid (Row wz b2 50 [.int .u8 0, .int .i64 0, .int .u64 0, .int .u64 0, .bool false]) := Lib.hid (by rw [← hz, ← hb2]; exact Row.new2 w2 _ _ _ rfl)
            rw [hz, hb2, hb1]
            clear hz hgul hb1 hb2 hc hgl c0 c1 c2 c3 c4 c5 c6 c7 c8 c9 c10 c11
            obtain ⟨c0, c1, c2, c3, c4, c5, c6, c7, c8, c9, c10, c11⟩ := und_cells HBz.out.doc.und HQ.out
            rw [HEN.out] at c6
            have hgul : gu < wz.heap.size := World.block_lt_of_cell? _ _ c0
            go_upto_region 34 with fail
            obtain ⟨wy, hwy⟩ : ∃ wy, wz.alloc (.cells #[.int .u64 o.c, .int .u64 o.su, .int .i64 o.le, .int .i64 o.gr, .slice s.2.1 o.bu.length s.2.2] 44) = wy := ⟨_, rfl⟩
            obtain ⟨b4, hb4⟩ : ∃ b4, wz.heap.size = b4 := ⟨_, rfl⟩
            have HBy : Hid (Both2 W bh bk bw l h d m ws us bs xs2 (.slice (some ⟨g, 0, none⟩) bs.length pc) A (.slice (some ⟨gu, 0, none⟩) bs.length uc) wy) := Lib.hid (by rw [← hwy]; exact HBz.out.alloc _)
            have HD1y : Hid (Row wy b1 50 [.int .u8 0, .int .i64 0, .int .u64 0, .int .u64 0, .bool false]) := Lib.hid (by rw [← hwy]; exact HD1.out.alloc _)
            have HD2y : Hid (Row wy b2 50 [.int .u8 0, .int .i64 0, .int .u64 0, .int .u64 0, .bool false]) := Lib.hid (by rw [← hwy]; exact HD2.out.alloc _)
            have HSHy : Hid (Row wy b4 44 [.int .u64 o.c, .int .u64 o.su, .int .i64 o.le, .int .i64 o.gr, .slice s.2.1 o.bu.length s.2.2]) := Lib.hid (by rw [← hwy, ← hb4]; exact Row.new wz _ _)
            first | rw [hwy, hb4] | trace_state
            obtain ⟨x9, hx9, hp9⟩ := HBy.out.at_ HQ.out HBb.out
            have HPy := Lib.hid hp9
            clear hwy hb4 hx9 hp9 hgul c0 c1 c2 c3 c4 c5 c6 c7 c8 c9 c10 c11
            obtain ⟨rv0, rv1, rv2, rv3, rv4⟩ := (HD1y.out).five
            obtain ⟨rg0, rg1, rg2, rg3, rg4⟩ := (HD2y.out).five
            obtain ⟨rs0, rs1, rs2, rs3, rs4⟩ := (HSHy.out).five
            obtain ⟨_, _, _, _, _, _, rc6, _, _, _, _, _⟩ := und_cells HBy.out.doc.und HQ.out
            rw [HEN.out] at rc6
            have rpc := own_cell HBy.out.many.ps (ptrs_get HBb.out)
            have rl1 := (HD1y.out).lt
            have rl2 := (HD2y.out).lt
            have rl3 := (HSHy.out).lt
            have rl4 : gu < _ := World.block_lt_of_cell? _ _ rc6
            have rl5 : g < _ := World.block_lt_of_cell? _ _ rpc
            go_region_held3 (fun w' => w'.cell? ⟨b1, 0, none⟩ = some (.int .u8 0) ∧ w'.cell? ⟨b1, 1, none⟩ = some (.int .i64 0) ∧ w'.cell? ⟨b1, 2, none⟩ = some (.int .u64 0) ∧ w'.cell? ⟨b1, 3, none⟩ = some (.int .u64 0) ∧ w'.cell? ⟨b1, 4, none⟩ = some (.bool false) ∧ w'.cell? ⟨b2, 0, none⟩ = some (.int .u8 0) ∧ w'.cell? ⟨b2, 1, none⟩ = some (.int .i64 0) ∧ w'.cell? ⟨b2, 2, none⟩ = some (.int .u64 0) ∧ w'.cell? ⟨b2, 3, none⟩ = some (.int .u64 0) ∧ w'.cell? ⟨b2, 4, none⟩ = some (.bool false) ∧ w'.cell? ⟨gu, q * 12 + 6, none⟩ = some (.bool true) ∧ w'.cell? ⟨g, q, none⟩ = some (.pointer (some ⟨b, 0, none⟩)) ∧ w'.cell? ⟨b4, 0, none⟩ = some (.int .u64 o.c) ∧ w'.cell? ⟨b4, 1, none⟩ = some (.int .u64 o.su) ∧ w'.cell? ⟨b4, 2, none⟩ = some (.int .i64 o.le) ∧ w'.cell? ⟨b4, 3, none⟩ = some (.int .i64 o.gr) ∧ w'.cell? ⟨b4, 4, none⟩ = some (.slice s.2.1 o.bu.length s.2.2))
              (first | (with_reducible exact ⟨zv0, zv1, zv2, zv3, zv4, zg0, zg1, zg2, zg3, zg4, zc6, zpc, zs0, zs1, zs2, zs3, zs4⟩) | (with_reducible exact ⟨yv0, yv1, yv2, yv3, yv4, yg0, yg1, yg2, yg3, yg4, yc6, ypc, ys0, ys1, ys2, ys3, ys4⟩) | (with_reducible exact ⟨rv0, rv1, rv2, rv3, rv4, rg0, rg1, rg2, rg3, rg4, rc6, rpc, rs0, rs1, rs2, rs3, rs4⟩) | go_keep)
              (first
              | (go_at_call 18; (with_reducible refine (hdone_op HPy.out.row.drew (HPy.out.next.on (Below.refl _ _).drew)).mono ?_); rw [HEN.out]; rintro e wx ⟨rfl, rfl⟩)
              | (go_at_call 20; (with_reducible refine (hanswer_op HPy.out.row.drew (HPy.out.next.on (Below.refl _ _).drew) HEN.out HPOS.out HFEW.out).mono ?_); rintro e wA ⟨Ab, cb, rfl, hoA, hbA⟩; have HEA := Lib.hid (own_ext hoA); have HBA := Lib.hid (HBy.out.on ((Below.refl _ _).drew.trans hbA)); have hdA := HD1y.out.drew.below hbA HD1y.out.lt; have hdB := HD2y.out.drew.below hbA HD2y.out.lt; have hdC := HSHy.out.drew.below hbA HSHy.out.lt; obtain ⟨yv0, yv1, yv2, yv3, yv4⟩ := (hdA).five; obtain ⟨yg0, yg1, yg2, yg3, yg4⟩ := (hdB).five; obtain ⟨ys0, ys1, ys2, ys3, ys4⟩ := (hdC).five; obtain ⟨_, _, _, _, _, _, yc6, _, _, _, _, _⟩ := und_cells HBA.out.doc.und HQ.out; rw [HEN.out] at yc6; have ypc := own_cell HBA.out.many.ps (ptrs_get HBb.out); have yl1 := (hdA).lt; have yl2 := (hdB).lt; have yl3 := (hdC).lt; have yl4 : gu < _ := World.block_lt_of_cell? _ _ yc6; have yl5 : g < _ := World.block_lt_of_cell? _ _ ypc; have HDA := Lib.hid hdA; have HDB := Lib.hid hdB; have HDC := Lib.hid hdC; clear hbA hdA hdB hdC)
              | (go_at_call 19; (with_reducible refine (same_yes HEA.out (HBA.out.doc.bu _ (List.mem_of_getElem? HQ.out)).1 HBUL.out).mono ?_); rintro e wS ⟨rfl, hbS⟩; have HBS := Lib.hid (HBA.out.on hbS); have hdA := HDA.out.below hbS HDA.out.lt; have hdB := HDB.out.below hbS HDB.out.lt; have hdC := HDC.out.below hbS HDC.out.lt; obtain ⟨zv0, zv1, zv2, zv3, zv4⟩ := (hdA).five; obtain ⟨zg0, zg1, zg2, zg3, zg4⟩ := (hdB).five; obtain ⟨zs0, zs1, zs2, zs3, zs4⟩ := (hdC).five; obtain ⟨_, _, _, _, _, _, zc6, _, _, _, _, _⟩ := und_cells HBS.out.doc.und HQ.out; rw [HEN.out] at zc6; have zpc := own_cell HBS.out.many.ps (ptrs_get HBb.out); have zl1 := (hdA).lt; have zl2 := (hdB).lt; have zl3 := (hdC).lt; have zl4 : gu < _ := World.block_lt_of_cell? _ _ zc6; have zl5 : g < _ := World.block_lt_of_cell? _ _ zpc; clear hbS hdA hdB hdC))
            all_goals
              go_wp2_with fail
              go_roundw
              case rel => exact ⟨j + 1, by omega, by go_num, us, xs2, A, ws, nA, rfl, HBS.out⟩
              case measure => simp [intOf]; omega
          | false =>
            have HEN := Lib.hid hen
            obtain ⟨d0, d1, d2, d3, d4, hdi⟩ := did_five (m := m) (ws := ws) o
            obtain ⟨o', hos⟩ : ∃ o', stepH m ws o = o' := ⟨_, rfl⟩
            obtain ⟨ws', htw⟩ : ∃ ws', stepW m ws o = ws' := ⟨_, rfl⟩
            obtain ⟨last, hl⟩ : ∃ last, o'.en = last := ⟨_, rfl⟩
            have HDI := Lib.hid hdi
            have HOS := Lib.hid hos
            have HTW := Lib.hid htw
            have HL := Lib.hid hl
            have HWF := Lib.hid HP.out.next.wf
            clear hen hdi hos htw hl
            go_upto_region 29 with (go_at_call 16; (with_reducible refine (hstep_op HP.out.row HA.out.many.hist HP.out.next HP.out.ok HPOS.out HEN.out).mono ?_); intro e w2 hs; have hcp := hs; obtain ⟨_, _, he, _⟩ := hs; rw [HDI.out, HOS.out, HL.out] at he; subst he; obtain ⟨xs3, hC, hsz⟩ := HA.out.coded HM1.out HQ.out HBb.out HXq.out hcp; rw [HTW.out, HOS.out] at hC; have HC := Lib.hid hC; obtain ⟨c0, c1, c2, c3, c4, c5, c6, c7, c8, c9, c10, c11⟩ := und_cells hC.doc.und HQ.out; rw [HEN.out] at c6; have hgul : gu < w2.heap.size := World.block_lt_of_cell? _ _ c0; clear hcp hC hsz)
            obtain ⟨wd, hz⟩ : ∃ wd, (w2.alloc (.cells #[.int .u8 d0, .int .i64 d1, .int .u64 d2, .int .u64 d3, .bool d4] 50)).alloc (.cells #[.int .u8 0, .int .i64 0, .int .u64 0, .int .u64 0, .bool false] 50) = wd := ⟨_, rfl⟩
            obtain ⟨b1, hb1⟩ : ∃ b1, w2.heap.size = b1 := ⟨_, rfl⟩
            obtain ⟨b2, hb2⟩ : ∃ b2, w2.heap.size + 1 = b2 := ⟨_, rfl⟩
            have HCd : Hid (Coded W bh bk bw l h d m ws ws' us q o' bs xs3 (.slice (some ⟨g, 0, none⟩) bs.length pc) A (.slice (some ⟨gu, 0, none⟩) bs.length uc) wd) := Lib.hid (by rw [← hz]; exact (HC.out.on ((Below.refl _ _).alloc (Nat.le_refl _) _)).on ((Below.refl _ _).alloc (Nat.le_refl _) _))
            have HCq : Hid (Coded W bh bk bw l h d m ws ws' us q o' bs xs3 (.slice (some ⟨g, 0, none⟩) bs.length pc) A (.slice (some ⟨gu, 0, none⟩) bs.length uc) wd.drew) := Lib.hid (HCd.out.on (Below.refl _ _).drew)
            have HBd : Hid (Below w2.heap.size w2 wd) := Lib.hid (by rw [← hz]; exact ((Below.refl _ _).alloc (Nat.le_refl _) _).alloc (by simp) _)
            have HSd : Hid (wd.heap.size = w2.heap.size + 2) := Lib.hid (by rw [← hz]; simp)
            have HD1d : Hid (Row wd b1 50 [.int .u8 d0, .int .i64 d1, .int .u64 d2, .int .u64 d3, .bool d4]) := Lib.hid (by rw [← hz, ← hb1]; exact (Row.new w2 _ _).alloc _)
            have HD2d : Hid (Row wd b2 50 [.int .u8 0, .int .i64 0, .int .u64 0, .int .u64 0, .bool false]) := Lib.hid (by rw [← hz, ← hb2]; exact Row.new2 w2 _ _ _ rfl)
            have HB12 : Hid (b1 = w2.heap.size ∧ b2 = w2.heap.size + 1) := Lib.hid ⟨hb1.symm, hb2.symm⟩
            rw [hz, hb2, hb1]
            have hg2 : gu ≠ b2 := by omega
            have hg3 : b2 ≠ gu := by omega
            clear hz hgul hb1 hb2 hc hgl c0 c1 c2 c3 c4 c5 c6 c7 c8 c9 c10 c11
            obtain ⟨c0, c1, c2, c3, c4, c5, c6, c7, c8, c9, c10, c11⟩ := und_cells HCd.out.doc.und HQ.out
            rw [HEN.out] at c6
            have hgul : gu < wd.heap.size := World.block_lt_of_cell? _ _ c0
            have s0 := HCd.out.sc.cell 0
            have s1 := HCd.out.sc.cell 1
            have s2 := HCd.out.sc.cell 2
            have sl := HCd.out.sc.lt
            go_upto_region 30 with fail
            go_region_law (first | (go_simp; (go_at_call 17; (with_reducible refine (dstep_at RR.out HCq.out.doc.cells (HCq.out.doc.bu _ (List.mem_of_getElem? HQ.out)).1 HCq.out.doc.ac.lt (HCq.out.doc.bu _ (List.mem_of_getElem? HQ.out)).2.lt HLEN.out HFEW.out HPOS.out HM.out HWF.out (HCq.out.doc.saw _ (List.mem_of_getElem? HQ.out)).2 HEN.out (HCq.out.doc.saw _ (List.mem_of_getElem? HQ.out)).1 HEN.out HTW.out HOS.out HDI.out HL.out).mono ?_); rintro e w3 ⟨s', A', nA', rfl, h5, h6, h7, h8, h9, h10⟩; have H5 := Lib.hid h5; have H6 := Lib.hid h6; have H7 := Lib.hid h7; have H8 := Lib.hid h8; have H9 := Lib.hid h9; have hd10 := (Below.refl wd.heap.size wd).drew.trans h10; have H10 := Lib.hid hd10; have hu3 := own_part HCd.out.doc.und (Part.of_below hd10 (Nat.le_refl _) []) (by simp); obtain ⟨k0, k1, k2, k3, k4, k5, k6, k7, k8, k9, k10, k11⟩ := und_cells hu3 HQ.out; rw [HEN.out] at k6; have hsc := HCd.out.sc.below hd10 HCd.out.sc.lt; have t0 := hsc.cell 0; have t1 := hsc.cell 1; have t2 := hsc.cell 2; have tl := hsc.lt; clear hsc; have kf := hu3.frozenAt; have kl : gu < w3.heap.size := World.block_lt_of_cell? _ _ k0; have HE1 := Lib.hid (HD1d.out.below hd10 HD1d.out.lt); have HE2 := Lib.hid (HD2d.out.below hd10 HD2d.out.lt); obtain ⟨m0, m1, m2, m3, m4⟩ := HE2.out.five; have mf := HE2.out.free; have ml := HE2.out.lt; clear h5 h6 h7 h8 h9 h10 hd10 hu3)))
            all_goals
              go_upto_region 31 with fail
              obtain ⟨wz, hz⟩ : ∃ wz, (((((((((((((((((w3.setCell ⟨gu, q * 12, none⟩ (.int .u8 o'.k)).setCell ⟨gu, q * 12 + 1, none⟩ (.int .i64 o'.v)).setCell ⟨gu, q * 12 + 2, none⟩ (.int .u64 o'.n)).setCell ⟨gu, q * 12 + 3, none⟩ (.int .i64 (o'.at_ : Int))).setCell ⟨gu, q * 12 + 4, none⟩ (.bool o'.ld)).setCell ⟨gu, q * 12 + 5, none⟩ (.int .u64 s'.1)).setCell ⟨gu, q * 12 + 6, none⟩ (.bool last)).setCell ⟨gu, q * 12 + 7, none⟩ (.int .u64 o'.c)).setCell ⟨gu, q * 12 + 8, none⟩ (.int .u64 o'.su)).setCell ⟨gu, q * 12 + 9, none⟩ (.int .i64 o'.le)).setCell ⟨gu, q * 12 + 10, none⟩ (.int .i64 o'.gr)).setCell ⟨gu, q * 12 + 11, none⟩ (.slice s'.2.1 o'.bu.length s'.2.2)).setCell ⟨b2, 0, none⟩ (.int .u8 d0)).setCell ⟨b2, 1, none⟩ (.int .i64 d1)).setCell ⟨b2, 2, none⟩ (.int .u64 d2)).setCell ⟨b2, 3, none⟩ (.int .u64 d3)).setCell ⟨b2, 4, none⟩ (.bool d4)) = wz := ⟨_, rfl⟩
              have hz2 : did_setH (undSet w3 gu (q * 12) o' s') b2 d0 d1 d2 d3 d4 = wz := by rw [← hz, undSet_is HL.out]; rfl
              have hPd := did_partH (undSet w3 gu (q * 12) o' s') b2 d0 d1 d2 d3 d4
              rw [hz2] at hPd
              have hFix := (HCq.out.doc.saw _ (List.mem_of_getElem? HQ.out)).2.step (m := m) (ws := ws)
              rw [HOS.out] at hFix
              have HBz : Hid (Both2 W bh bk bw l h d m ws' (us.set q (o', s')) bs xs3 (.slice (some ⟨g, 0, none⟩) bs.length pc) A' (.slice (some ⟨gu, 0, none⟩) bs.length uc) wz) := Lib.hid (HC.out.both (S := [b2]) rfl HQ.out HBd.out (by have := HSd.out; omega) H10.out H5.out H6.out H7.out H8.out H9.out hFix hPd (by intro r hr; have := HB12.out; simp at hr; omega))
              have hPu := und_part w3 gu (q * 12) o' s'
              have hgb : gu ≠ b1 := own_off HCd.out.doc.und HD1d.out (by decide) _ rfl
              have HD1 : Hid (Row wz b1 50 [.int .u8 d0, .int .i64 d1, .int .u64 d2, .int .u64 d3, .bool d4]) := Lib.hid ((HE1.out.part hPu (by simpa using fun e => hgb e.symm)).part hPd (by have := HB12.out; simp; omega))
              have HD2 : Hid (Row wz b2 50 [.int .u8 d0, .int .i64 d1, .int .u64 d2, .int .u64 d3, .bool d4]) := Lib.hid (by rw [← hz2]; exact did_rowH (HE2.out.part hPu (by simpa using hg3)))
              have HOQ : Hid ((us.set q (o', s'))[q]? = some (o', s')) := Lib.hid (List.getElem?_set_self (lt_of_get HQ.out))
              have HBUL : Hid (o'.bu.length ≤ 17592186044416) := Lib.hid (by
                obtain ⟨x8, _, hp8⟩ := HBz.out.at_ HOQ.out HBb.out
                have h1 := hp8.next.wf
                have h2 := HFEW.out
                rcases h1 with ⟨_, e, _⟩ | ⟨_, _, ⟨_, e, _⟩ | ⟨_, ⟨_, e⟩ | ⟨_, e⟩⟩⟩
                · rw [e]; simp
                · rw [e]; simp
                · omega
                · omega)
              rw [hz]
              clear hz hz2 hPd hFix hPu hgb hg2 hg3 hgul s0 s1 s2 sl t0 t1 t2 tl kf kl m0 m1 m2 m3 m4 mf ml c0 c1 c2 c3 c4 c5 c6 c7 c8 c9 c10 c11 k0 k1 k2 k3 k4 k5 k6 k7 k8 k9 k10 k11
              cases last with
              | true =>
                obtain ⟨c0, c1, c2, c3, c4, c5, c6, c7, c8, c9, c10, c11⟩ := und_cells HBz.out.doc.und HOQ.out
                rw [HL.out] at c6
                have hgul : gu < wz.heap.size := World.block_lt_of_cell? _ _ c0
                go_upto_region 34 with fail
                obtain ⟨wy, hwy⟩ : ∃ wy, wz.alloc (.cells #[.int .u64 o'.c, .int .u64 o'.su, .int .i64 o'.le, .int .i64 o'.gr, .slice s'.2.1 o'.bu.length s'.2.2] 44) = wy := ⟨_, rfl⟩
                obtain ⟨b4, hb4⟩ : ∃ b4, wz.heap.size = b4 := ⟨_, rfl⟩
                have HBy : Hid (Both2 W bh bk bw l h d m ws' (us.set q (o', s')) bs xs3 (.slice (some ⟨g, 0, none⟩) bs.length pc) A' (.slice (some ⟨gu, 0, none⟩) bs.length uc) wy) := Lib.hid (by rw [← hwy]; exact HBz.out.alloc _)
                have HD1y : Hid (Row wy b1 50 [.int .u8 d0, .int .i64 d1, .int .u64 d2, .int .u64 d3, .bool d4]) := Lib.hid (by rw [← hwy]; exact HD1.out.alloc _)
                have HD2y : Hid (Row wy b2 50 [.int .u8 d0, .int .i64 d1, .int .u64 d2, .int .u64 d3, .bool d4]) := Lib.hid (by rw [← hwy]; exact HD2.out.alloc _)
                have HSHy : Hid (Row wy b4 44 [.int .u64 o'.c, .int .u64 o'.su, .int .i64 o'.le, .int .i64 o'.gr, .slice s'.2.1 o'.bu.length s'.2.2]) := Lib.hid (by rw [← hwy, ← hb4]; exact Row.new wz _ _)
                first | rw [hwy, hb4] | trace_state
                obtain ⟨x9, hx9, hp9⟩ := HBy.out.at_ HOQ.out HBb.out
                have HPy := Lib.hid hp9
                clear hwy hb4 hx9 hp9 hgul c0 c1 c2 c3 c4 c5 c6 c7 c8 c9 c10 c11
                obtain ⟨rv0, rv1, rv2, rv3, rv4⟩ := (HD1y.out).five
                obtain ⟨rg0, rg1, rg2, rg3, rg4⟩ := (HD2y.out).five
                obtain ⟨rs0, rs1, rs2, rs3, rs4⟩ := (HSHy.out).five
                obtain ⟨_, _, _, _, _, _, rc6, _, _, _, _, _⟩ := und_cells HBy.out.doc.und HOQ.out
                rw [HL.out] at rc6
                have rpc := own_cell HBy.out.many.ps (ptrs_get HBb.out)
                have rl1 := (HD1y.out).lt
                have rl2 := (HD2y.out).lt
                have rl3 := (HSHy.out).lt
                have rl4 : gu < _ := World.block_lt_of_cell? _ _ rc6
                have rl5 : g < _ := World.block_lt_of_cell? _ _ rpc
                go_region_held3 (fun w' => w'.cell? ⟨b1, 0, none⟩ = some (.int .u8 d0) ∧ w'.cell? ⟨b1, 1, none⟩ = some (.int .i64 d1) ∧ w'.cell? ⟨b1, 2, none⟩ = some (.int .u64 d2) ∧ w'.cell? ⟨b1, 3, none⟩ = some (.int .u64 d3) ∧ w'.cell? ⟨b1, 4, none⟩ = some (.bool d4) ∧ w'.cell? ⟨b2, 0, none⟩ = some (.int .u8 d0) ∧ w'.cell? ⟨b2, 1, none⟩ = some (.int .i64 d1) ∧ w'.cell? ⟨b2, 2, none⟩ = some (.int .u64 d2) ∧ w'.cell? ⟨b2, 3, none⟩ = some (.int .u64 d3) ∧ w'.cell? ⟨b2, 4, none⟩ = some (.bool d4) ∧ w'.cell? ⟨gu, q * 12 + 6, none⟩ = some (.bool true) ∧ w'.cell? ⟨g, q, none⟩ = some (.pointer (some ⟨b, 0, none⟩)) ∧ w'.cell? ⟨b4, 0, none⟩ = some (.int .u64 o'.c) ∧ w'.cell? ⟨b4, 1, none⟩ = some (.int .u64 o'.su) ∧ w'.cell? ⟨b4, 2, none⟩ = some (.int .i64 o'.le) ∧ w'.cell? ⟨b4, 3, none⟩ = some (.int .i64 o'.gr) ∧ w'.cell? ⟨b4, 4, none⟩ = some (.slice s'.2.1 o'.bu.length s'.2.2))
                  (first | (with_reducible exact ⟨zv0, zv1, zv2, zv3, zv4, zg0, zg1, zg2, zg3, zg4, zc6, zpc, zs0, zs1, zs2, zs3, zs4⟩) | (with_reducible exact ⟨yv0, yv1, yv2, yv3, yv4, yg0, yg1, yg2, yg3, yg4, yc6, ypc, ys0, ys1, ys2, ys3, ys4⟩) | (with_reducible exact ⟨rv0, rv1, rv2, rv3, rv4, rg0, rg1, rg2, rg3, rg4, rc6, rpc, rs0, rs1, rs2, rs3, rs4⟩) | go_keep)
                  (first
                  | (go_at_call 18; (with_reducible refine (hdone_op HPy.out.row.drew (HPy.out.next.on (Below.refl _ _).drew)).mono ?_); rw [HL.out]; rintro e wx ⟨rfl, rfl⟩)
                  | (go_at_call 20; (with_reducible refine (hanswer_op HPy.out.row.drew (HPy.out.next.on (Below.refl _ _).drew) HL.out HPOS.out HFEW.out).mono ?_); rintro e wA ⟨Ab, cb, rfl, hoA, hbA⟩; have HEA := Lib.hid (own_ext hoA); have HBA := Lib.hid (HBy.out.on ((Below.refl _ _).drew.trans hbA)); have hdA := HD1y.out.drew.below hbA HD1y.out.lt; have hdB := HD2y.out.drew.below hbA HD2y.out.lt; have hdC := HSHy.out.drew.below hbA HSHy.out.lt; obtain ⟨yv0, yv1, yv2, yv3, yv4⟩ := (hdA).five; obtain ⟨yg0, yg1, yg2, yg3, yg4⟩ := (hdB).five; obtain ⟨ys0, ys1, ys2, ys3, ys4⟩ := (hdC).five; obtain ⟨_, _, _, _, _, _, yc6, _, _, _, _, _⟩ := und_cells HBA.out.doc.und HOQ.out; rw [HL.out] at yc6; have ypc := own_cell HBA.out.many.ps (ptrs_get HBb.out); have yl1 := (hdA).lt; have yl2 := (hdB).lt; have yl3 := (hdC).lt; have yl4 : gu < _ := World.block_lt_of_cell? _ _ yc6; have yl5 : g < _ := World.block_lt_of_cell? _ _ ypc; have HDA := Lib.hid hdA; have HDB := Lib.hid hdB; have HDC := Lib.hid hdC; clear hbA hdA hdB hdC)
                  | (go_at_call 19; (with_reducible refine (same_yes HEA.out (HBA.out.doc.bu _ (List.mem_of_getElem? HOQ.out)).1 HBUL.out).mono ?_); rintro e wS ⟨rfl, hbS⟩; have HBS := Lib.hid (HBA.out.on hbS); have hdA := HDA.out.below hbS HDA.out.lt; have hdB := HDB.out.below hbS HDB.out.lt; have hdC := HDC.out.below hbS HDC.out.lt; obtain ⟨zv0, zv1, zv2, zv3, zv4⟩ := (hdA).five; obtain ⟨zg0, zg1, zg2, zg3, zg4⟩ := (hdB).five; obtain ⟨zs0, zs1, zs2, zs3, zs4⟩ := (hdC).five; obtain ⟨_, _, _, _, _, _, zc6, _, _, _, _, _⟩ := und_cells HBS.out.doc.und HOQ.out; rw [HL.out] at zc6; have zpc := own_cell HBS.out.many.ps (ptrs_get HBb.out); have zl1 := (hdA).lt; have zl2 := (hdB).lt; have zl3 := (hdC).lt; have zl4 : gu < _ := World.block_lt_of_cell? _ _ zc6; have zl5 : g < _ := World.block_lt_of_cell? _ _ zpc; clear hbS hdA hdB hdC))
                all_goals
                  go_wp2_with fail
                  go_roundw
                  case rel => exact ⟨j + 1, by omega, by go_num, (us.set q (o', s')), xs3, A', ws', nA', rfl, HBS.out⟩
                  case measure => simp [intOf]; omega
              | false =>
                obtain ⟨c0, c1, c2, c3, c4, c5, c6, c7, c8, c9, c10, c11⟩ := und_cells HBz.out.doc.und HOQ.out
                rw [HL.out] at c6
                have hgul : gu < wz.heap.size := World.block_lt_of_cell? _ _ c0
                go_upto_region 34 with fail
                obtain ⟨wy, hwy⟩ : ∃ wy, wz.alloc (.cells #[.int .u64 0, .int .u64 0, .int .i64 0, .int .i64 0, .slice none 0 0] 44) = wy := ⟨_, rfl⟩
                obtain ⟨b4, hb4⟩ : ∃ b4, wz.heap.size = b4 := ⟨_, rfl⟩
                have HBy : Hid (Both2 W bh bk bw l h d m ws' (us.set q (o', s')) bs xs3 (.slice (some ⟨g, 0, none⟩) bs.length pc) A' (.slice (some ⟨gu, 0, none⟩) bs.length uc) wy) := Lib.hid (by rw [← hwy]; exact HBz.out.alloc _)
                have HD1y : Hid (Row wy b1 50 [.int .u8 d0, .int .i64 d1, .int .u64 d2, .int .u64 d3, .bool d4]) := Lib.hid (by rw [← hwy]; exact HD1.out.alloc _)
                have HD2y : Hid (Row wy b2 50 [.int .u8 d0, .int .i64 d1, .int .u64 d2, .int .u64 d3, .bool d4]) := Lib.hid (by rw [← hwy]; exact HD2.out.alloc _)
                have HSHy : Hid (Row wy b4 44 [.int .u64 0, .int .u64 0, .int .i64 0, .int .i64 0, .slice none 0 0]) := Lib.hid (by rw [← hwy, ← hb4]; exact Row.new wz _ _)
                first | rw [hwy, hb4] | trace_state
                obtain ⟨x9, hx9, hp9⟩ := HBy.out.at_ HOQ.out HBb.out
                have HPy := Lib.hid hp9
                clear hwy hb4 hx9 hp9 hgul c0 c1 c2 c3 c4 c5 c6 c7 c8 c9 c10 c11
                obtain ⟨rv0, rv1, rv2, rv3, rv4⟩ := (HD1y.out).five
                obtain ⟨rg0, rg1, rg2, rg3, rg4⟩ := (HD2y.out).five
                obtain ⟨rs0, rs1, rs2, rs3, rs4⟩ := (HSHy.out).five
                obtain ⟨_, _, _, _, _, _, rc6, _, _, _, _, _⟩ := und_cells HBy.out.doc.und HOQ.out
                rw [HL.out] at rc6
                have rpc := own_cell HBy.out.many.ps (ptrs_get HBb.out)
                have rl1 := (HD1y.out).lt
                have rl2 := (HD2y.out).lt
                have rl3 := (HSHy.out).lt
                have rl4 : gu < _ := World.block_lt_of_cell? _ _ rc6
                have rl5 : g < _ := World.block_lt_of_cell? _ _ rpc
                go_region_held3 (fun w' => w'.cell? ⟨b1, 0, none⟩ = some (.int .u8 d0) ∧ w'.cell? ⟨b1, 1, none⟩ = some (.int .i64 d1) ∧ w'.cell? ⟨b1, 2, none⟩ = some (.int .u64 d2) ∧ w'.cell? ⟨b1, 3, none⟩ = some (.int .u64 d3) ∧ w'.cell? ⟨b1, 4, none⟩ = some (.bool d4) ∧ w'.cell? ⟨b2, 0, none⟩ = some (.int .u8 d0) ∧ w'.cell? ⟨b2, 1, none⟩ = some (.int .i64 d1) ∧ w'.cell? ⟨b2, 2, none⟩ = some (.int .u64 d2) ∧ w'.cell? ⟨b2, 3, none⟩ = some (.int .u64 d3) ∧ w'.cell? ⟨b2, 4, none⟩ = some (.bool d4) ∧ w'.cell? ⟨gu, q * 12 + 6, none⟩ = some (.bool false) ∧ w'.cell? ⟨g, q, none⟩ = some (.pointer (some ⟨b, 0, none⟩)) ∧ w'.cell? ⟨b4, 0, none⟩ = some (.int .u64 0) ∧ w'.cell? ⟨b4, 1, none⟩ = some (.int .u64 0) ∧ w'.cell? ⟨b4, 2, none⟩ = some (.int .i64 0) ∧ w'.cell? ⟨b4, 3, none⟩ = some (.int .i64 0) ∧ w'.cell? ⟨b4, 4, none⟩ = some (.slice none 0 0))
                  (first | (with_reducible exact ⟨zv0, zv1, zv2, zv3, zv4, zg0, zg1, zg2, zg3, zg4, zc6, zpc, zs0, zs1, zs2, zs3, zs4⟩) | (with_reducible exact ⟨yv0, yv1, yv2, yv3, yv4, yg0, yg1, yg2, yg3, yg4, yc6, ypc, ys0, ys1, ys2, ys3, ys4⟩) | (with_reducible exact ⟨rv0, rv1, rv2, rv3, rv4, rg0, rg1, rg2, rg3, rg4, rc6, rpc, rs0, rs1, rs2, rs3, rs4⟩) | go_keep)
                  (first
                  | (go_at_call 18; (with_reducible refine (hdone_op HPy.out.row.drew (HPy.out.next.on (Below.refl _ _).drew)).mono ?_); rw [HL.out]; rintro e wx ⟨rfl, rfl⟩)
                  | (go_at_call 20; (with_reducible refine (hans_wait HPy.out.row.drew (HPy.out.next.on (Below.refl _ _).drew) HL.out).mono ?_); rintro e wA ⟨rfl, hbA⟩; have HBA := Lib.hid (HBy.out.on ((Below.refl _ _).drew.trans hbA)); have hdA := HD1y.out.drew.below hbA HD1y.out.lt; have hdB := HD2y.out.drew.below hbA HD2y.out.lt; have hdC := HSHy.out.drew.below hbA HSHy.out.lt; obtain ⟨yv0, yv1, yv2, yv3, yv4⟩ := (hdA).five; obtain ⟨yg0, yg1, yg2, yg3, yg4⟩ := (hdB).five; obtain ⟨ys0, ys1, ys2, ys3, ys4⟩ := (hdC).five; obtain ⟨_, _, _, _, _, _, yc6, _, _, _, _, _⟩ := und_cells HBA.out.doc.und HOQ.out; rw [HL.out] at yc6; have ypc := own_cell HBA.out.many.ps (ptrs_get HBb.out); have yl1 := (hdA).lt; have yl2 := (hdB).lt; have yl3 := (hdC).lt; have yl4 : gu < _ := World.block_lt_of_cell? _ _ yc6; have yl5 : g < _ := World.block_lt_of_cell? _ _ ypc; have HDA := Lib.hid hdA; have HDB := Lib.hid hdB; have HDC := Lib.hid hdC; clear hbA hdA hdB hdC)
                  | (go_at_call 19; (with_reducible refine (same_nil _).mono ?_); rintro e wS ⟨rfl, hbS⟩; have HBS := Lib.hid (HBA.out.on hbS); have hdA := HDA.out.below hbS HDA.out.lt; have hdB := HDB.out.below hbS HDB.out.lt; have hdC := HDC.out.below hbS HDC.out.lt; obtain ⟨zv0, zv1, zv2, zv3, zv4⟩ := (hdA).five; obtain ⟨zg0, zg1, zg2, zg3, zg4⟩ := (hdB).five; obtain ⟨zs0, zs1, zs2, zs3, zs4⟩ := (hdC).five; obtain ⟨_, _, _, _, _, _, zc6, _, _, _, _, _⟩ := und_cells HBS.out.doc.und HOQ.out; rw [HL.out] at zc6; have zpc := own_cell HBS.out.many.ps (ptrs_get HBb.out); have zl1 := (hdA).lt; have zl2 := (hdB).lt; have zl3 := (hdC).lt; have zl4 : gu < _ := World.block_lt_of_cell? _ _ zc6; have zl5 : g < _ := World.block_lt_of_cell? _ _ zpc; clear hbS hdA hdB hdC))
                all_goals
                  go_wp2_with fail
                  go_roundw
                  case rel => exact ⟨j + 1, by omega, by go_num, (us.set q (o', s')), xs3, A', ws', nA', rfl, HBS.out⟩
                  case measure => simp [intOf]; omega
        · obtain rfl : j = sch.length := by omega
          have HLEN := Lib.hid HA.out.many.hist.len
          have HFEW := Lib.hid HA.out.many.hist.few
          go_wp2_with (first
            | (go_at_call 12; (with_reducible refine (begins_any _).mono ?_); rintro e w4 ⟨rfl, hb⟩; have HB4 := Lib.hid (HB3.out.trans (hb.mono HB3.out.size)); clear hb)
            | (go_at_call 22; (with_reducible refine (hallK_any HA.out.many.hist).mono ?_); rintro e w2 ⟨bA, rfl, hbA, hrA, hb⟩; have HR2 := Lib.hid hrA; have HE2 := Lib.hid (HA.out.doc.cells.on hb); have HB2 := Lib.hid (HA.out.many.low.trans (hb.mono HA.out.many.low.size)); clear hbA hrA hb)
            | (go_at_call 21; (with_reducible refine (words_yes (row_ext HR2.out) HE2.out (by have := HLEN.out; have := HFEW.out; omega)).mono ?_); rintro e w3 ⟨rfl, hb⟩; have HB3 := Lib.hid (HB2.out.trans (hb.mono HB2.out.size)); clear hb))
          go_ret
          exact ⟨rfl, HB4.out⟩
end Go.Proofs.Ytiifhkfkcljoiaa
