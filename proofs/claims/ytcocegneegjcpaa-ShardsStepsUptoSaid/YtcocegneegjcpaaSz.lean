/- THE WALK of the law 'ShardsSteps'. -/
import Derived.Test.YtcocegneegjcpaaSy
import Derived.Test.YtcocegneegjcpaaEx
namespace Go.Proofs.Ytcocegneegjcpaa
open Go Go.RowKit

theorem new_fiveS (k i y : Int) : ∀ u ∈ ([.int .u8 k, .int .i64 i, .int .u64 y, .int .i64 0, .int .u64 0] : List Value), u.oneCell' = true := by
  intro u hu
  simp at hu
  rcases hu with rfl | rfl | rfl | rfl | rfl <;> rfl
theorem clen_n {w : World} {bc bk bw n : Nat} {ws : List Int} (h : Shard w bc bk bw ws) (hn : ws.length = n) :
    Calls Try.prog 23 #[.pointer (some ⟨bc, 0, none⟩)] w fun e w' => e = .returned (.int .i64 (n : Int)) ∧ w = w' := hn ▸ clen_any h
theorem start_n {w : World} {bc bk bw n : Nat} {ws : List Int} (h : Shard w bc bk bw ws) (hn : ws.length = n) {k i y : Int} (hr : rightB k i y = true) :
    Calls Try.prog 24 #[.pointer (some ⟨bc, 0, none⟩), .agg #[.int .u8 k, .int .i64 i, .int .u64 y]] w (Begun w (opL bk n k i.toNat y 0 0)) := hn ▸ start_op h hr
theorem u64s_made2 (n : Nat) : (madeCells (Value.int .u64 0).cells (n * 1)).toList = u64s (List.replicate n 0) := u64s_made n
set_option maxRecDepth 100000
theorem ssteps_no {n : Int} (hn : n < 1 ∨ 64 < n) {A B : Option Addr} {len cap len' cap' : Nat} (W : World) :
    Calls Try.prog 4 #[.int .i64 n, .slice A len cap, .slice B len' cap'] W fun e w' => e = .returned (.bool true) ∧ Below W.heap.size W w' := by
  rcases hn with hn | hn
  · have h1 : decide (n < 1) = true := by simpa using hn
    have HN := Lib.hid hn
    clear hn
    go_enter Try.func4, Try.ntmps4
    go_wp2_with (first
      | (go_at_call 20; refine (begun_no (.inl HN.out)).mono ?_; rintro e w' ⟨rfl, rfl⟩)
      | (go_at_call 21; refine (cnew_no (.inl HN.out)).mono ?_; rintro e w' ⟨rfl, rfl⟩)
      | (go_at_call 22; refine (begins_any _).mono ?_; rintro e w0 ⟨rfl, hb⟩; have HB0 := Lib.hid hb; clear hb))
    go_ret
    exact ⟨rfl, HB0.out⟩
  · have h1 : decide (n < 1) = false := by simp; omega
    have h2 : decide (64 < n) = true := by simpa using hn
    have HN := Lib.hid hn
    clear hn
    go_enter Try.func4, Try.ntmps4
    go_wp2_with (first
      | (go_at_call 20; refine (begun_no (.inr HN.out)).mono ?_; rintro e w' ⟨rfl, rfl⟩)
      | (go_at_call 21; refine (cnew_no (.inr HN.out)).mono ?_; rintro e w' ⟨rfl, rfl⟩)
      | (go_at_call 22; refine (begins_any _).mono ?_; rintro e w0 ⟨rfl, hb⟩; have HB0 := Lib.hid hb; clear hb))
    go_ret
    exact ⟨rfl, HB0.out⟩
/-- what is known of each operation -/
def WellS (n : Nat) (o : OpS) : Prop := RightN o.k o.i o.y ∧ o.i ≤ 9223372036854775807 ∧ o.t ≤ many n o.k ∧ (o.t = 0 → o.s = 0)
theorem did_fiveS (n : Nat) (k : Int) (i : Nat) (y : Int) (t : Nat) (x : Int) : ∃ d0 d1 d2 d3, didV n k i y t x = .agg #[.int .u8 d0, .int .i64 d1, .int .u64 d2, .int .u64 d3, .bool true] := ⟨_, _, _, _, rfl⟩
/-- the code's step, all that it answers said outright -/
theorem sstep_at {w : World} {bk bw bp n : Nat} {ws ws' : List Int} (h : Words w bk bw ws) (hn : ws.length = n) (h0 : 0 < n) {o o' : OpS} (hr : RightN o.k o.i o.y) {x : Int} (ht : o.t < many n o.k) (hp : Row w bp 126 (opL bk n o.k o.i o.y o.t o.s)) (hx : ws[cellOf n o.k o.i o.t]? = some x)
    (hws : ws.set (cellOf n o.k o.i o.t) (putOf o.k o.y x) = ws') (ho : (⟨o.k, o.i, o.y, o.t + 1, sumOf o.k o.y o.s x⟩ : OpS) = o') {v : Value} (hd : didV n o.k o.i o.y o.t x = v) {l : Bool} (hl : decide (many n o'.k ≤ o'.t) = l) :
    Calls Try.prog 26 #[.pointer (some ⟨bp, 0, none⟩)] w (Stepped w bk bw bp ws' (opL bk n o'.k o'.i o'.y o'.t o'.s) (.tuple #[v, .bool l])) := by
  subst hn
  subst hws
  subst ho
  subst hd
  subst hl
  exact step_run h h0 hr ht hp hx
/-- the document's step, all that it answers said outright -/
theorem rs_two {w : World} {g0 c0 n : Nat} {ws ws' : List Int} (h : Lies w g0 ws) (hg : g0 < w.heap.size) (hn : ws.length = n) (h0 : 0 < n) (hl : n ≤ 64) {o o' : OpS} (hr : RightN o.k o.i o.y) (hi : o.i ≤ 9223372036854775807) {x : Int} (ht : o.t < many n o.k) (hs : o.t = 0 → o.s = 0) (hx : ws[cellOf n o.k o.i o.t]? = some x) (hux : U64 x)
    (hws : ws.set (cellOf n o.k o.i o.t) (putOf o.k o.y x) = ws') (ho : (⟨o.k, o.i, o.y, o.t + 1, sumOf o.k o.y o.s x⟩ : OpS) = o') {v : Value} (hd : didV n o.k o.i o.y o.t x = v) :
    Calls Try.prog 28 #[.slice (some ⟨g0, 0, none⟩) n c0, .agg #[.int .u8 o.k, .int .i64 (o.i : Int), .int .u64 o.y, .int .i64 (o.t : Int), .int .u64 o.s]] w (RStepD w n ws' [.int .u8 o'.k, .int .i64 (o'.i : Int), .int .u64 o'.y, .int .i64 (o'.t : Int), .int .u64 o'.s] v) := by
  subst hws
  subst ho
  subst hd
  exact rs_at h hg hn h0 hl hr hi ht hs hx hux
theorem sanswer_at {w : World} {bk n bp : Nat} {o : OpS} {a : Int} (hp : Row w bp 126 (opL bk n o.k o.i o.y o.t o.s)) (ha : (if many n o.k ≤ o.t then o.s else 0) = a) :
    Calls Try.prog 30 #[.pointer (some ⟨bp, 0, none⟩)] w fun e w' => e = .returned (.int .u64 a) ∧ w = w' := ha ▸ answer_op hp
theorem sdone_at {w : World} {bk n bp : Nat} {o : OpS} {l : Bool} (hp : Row w bp 126 (opL bk n o.k o.i o.y o.t o.s)) (hl : decide (many n o.k ≤ o.t) = l) :
    Calls Try.prog 29 #[.pointer (some ⟨bp, 0, none⟩)] w fun e w' => e = .returned (.bool l) ∧ w = w' := hl ▸ done_op hp
theorem did_set {w : World} {b : Nat} {x0 x1 x2 x3 x4 : Value} {d0 d1 d2 d3 : Int} (h : Row w b 45 [x0, x1, x2, x3, x4]) :
    Row (((((w.setCell ⟨b, 0, none⟩ (.int .u8 d0)).setCell ⟨b, 1, none⟩ (.int .i64 d1)).setCell ⟨b, 2, none⟩ (.int .u64 d2)).setCell ⟨b, 3, none⟩ (.int .u64 d3)).setCell ⟨b, 4, none⟩ (.bool true)) b 45 [.int .u8 d0, .int .i64 d1, .int .u64 d2, .int .u64 d3, .bool true] :=
  ((((h.set 0 _).set 1 _).set 2 _).set 3 _).set 4 _
theorem did_part (w : World) (b : Nat) (d0 d1 d2 d3 : Int) : Part [b] w (((((w.setCell ⟨b, 0, none⟩ (.int .u8 d0)).setCell ⟨b, 1, none⟩ (.int .i64 d1)).setCell ⟨b, 2, none⟩ (.int .u64 d2)).setCell ⟨b, 3, none⟩ (.int .u64 d3)).setCell ⟨b, 4, none⟩ (.bool true)) :=
  (((((Part.refl [b] w).set (by simp) _).set (by simp) _).set (by simp) _).set (by simp) _).set (by simp) _
set_option maxHeartbeats 51200000
theorem ssteps_yes {n : Nat} (h1 : 1 ≤ n) (h2 : n ≤ 64) {A B : Option Addr} {cap cap' : Nat} {ops : List (Int × Int × Int)} {xs : List Int} (W : World) (hE : ExtOps W A ops) (hr : ops.length ≤ 1048576) (hwf : ∀ op, op ∈ ops → op.2.1 ≤ 9223372036854775807) (hX : Ext .i64 W B xs) (hr' : xs.length ≤ 1048576) :
    Calls Try.prog 4 #[.int .i64 (n : Int), .slice A ops.length cap, .slice B xs.length cap'] W fun e w' => e = .returned (.bool true) ∧ Below W.heap.size W w' := by
  obtain ⟨ip, hip, hp0, hp1, hp2⟩ := info_parts info72
  obtain ⟨iu, hiu, hu0, hu1, hu2⟩ := info_parts infoUN
  obtain ⟨iU, hiU, hU0, hU1, hU2⟩ := info_parts infoUS
  have HE := Lib.hid hE
  have HX := Lib.hid hX
  have HWF := Lib.hid hwf
  have hbu : iU.bytes * n ≤ 281474976710656 := by rw [hU2]; omega
  have hmu : n ≤ maxLen := by unfold maxLen; omega
  clear hE hwf hX
  go_enter Try.func4, Try.ntmps4
  go_wp2_with (first
    | (go_at_call 20; refine (begun_yes _ h1 h2).mono ?_; rintro e w1 ⟨bc, bk, bw, rfl, hc, hk, hw, hS, hb⟩; have HS1 := Lib.hid hS; have HB1 := Lib.hid hb; have HW1 := Lib.hid hw; have HLR : Hid ((List.replicate n (0 : Int)).length = n) := Lib.hid (by simp); clear hc hk hw hS hb)
    | (go_at_call 23; refine (clen_n HS1.out HLR.out).mono ?_; rintro e w' ⟨rfl, rfl⟩))
  go_loopw [11, 12, 13] (fun vu vp u wr => ∃ j : Nat, j ≤ ops.length ∧ u = .int .i64 j ∧ ∃ bs os, os.length ≤ j ∧ (∀ o, o ∈ os → WellS n o) ∧ AllS W bc bk bw n 0 (List.replicate n 0) os bs os [] vp vu (.slice none 0 0) wr) (fun _ _ u _ => ops.length - (intOf u).toNat)
  case atStart => exact ⟨0, Nat.zero_le _, rfl, [], [], by simp, by simp, ⟨⟨by simp [ptrs], .inl ⟨rfl, rfl⟩⟩, ⟨by simp [unCells], .inl ⟨rfl, rfl⟩⟩, ⟨by simp [u64s], .inl ⟨rfl, rfl⟩⟩, ⟨by simp, by simp, by simp, by simp, by simp⟩, HS1.out, by simp, HW1.out, HB1.out⟩⟩
  case round =>
    obtain ⟨j, hj, rfl, bs, os, hos, hwell, hS⟩ := hrel
    have HS := Lib.hid hS
    have HWE := Lib.hid hwell
    clear hS hwell HS1 HB1 HLR
    by_cases hlt : j < ops.length
    · obtain ⟨⟨k, i, y⟩, hop⟩ : ∃ op, ops[j]? = some op := ⟨ops[j], List.getElem?_eq_getElem hlt⟩
      obtain ⟨b, o, rfl, hbl, e0, e1, e2⟩ := HE.out j _ hop
      have hwi := HWF.out _ (List.mem_of_getElem? hop)
      have HB := Lib.hid hbl
      have f0 := (HS.out.low.cell (p := ⟨b, o + j * 3, none⟩) hbl).trans e0
      have f1 := (HS.out.low.cell (p := ⟨b, o + j * 3 + 1, none⟩) hbl).trans e1
      have f2 := (HS.out.low.cell (p := ⟨b, o + j * 3 + 2, none⟩) hbl).trans e2
      dsimp only at f0 f1 f2 hwi
      have hb' : b < wr.heap.size := Nat.lt_of_lt_of_le hbl HS.out.low.size
      have E0 := Lib.hid e0
      have E1 := Lib.hid e1
      have E2 := Lib.hid e2
      have hlt2 : (j : Int) < (ops.length : Int) := by omega
      have HLS := Lib.hid (HS.out.pends.len)
      clear hop hbl e0 e1 e2
      cases hbR : rightB k i y with
      | false =>
        have HR := Lib.hid hbR
        clear hbR
        go_wp2_with (first
          | (go_at_call 24; refine (start_no HR.out).mono ?_; rintro e w5 ⟨rfl, hb5⟩; have HS5 := Lib.hid (HS.out.on hb5); have z0 := (HS5.out.low.cell (p := ⟨b, o + j * 3, none⟩) HB.out).trans E0.out; have z1 := (HS5.out.low.cell (p := ⟨b, o + j * 3 + 1, none⟩) HB.out).trans E1.out; have z2 := (HS5.out.low.cell (p := ⟨b, o + j * 3 + 2, none⟩) HB.out).trans E2.out; clear hb5)
          | (go_at_call 25; refine (rright_s HR.out _).mono ?_; rintro e w6 ⟨rfl, hb6⟩; have HS6 := Lib.hid (HS5.out.on hb6); clear hb6))
        go_roundw
        case rel => exact ⟨j + 1, by omega, by go_num, bs, os, by omega, HWE.out, HS6.out⟩
        case measure => simp [intOf]; omega
      | true =>
        have HR := Lib.hid hbR
        clear hbR
        have HRN : Hid (RightN k i.toNat y) := Lib.hid (by obtain ⟨m, rfl, hm⟩ := rightB_iff.1 HR.out; exact hm)
        have HI : Hid (((i.toNat : Nat) : Int) = i) := Lib.hid (by obtain ⟨m, rfl, _⟩ := rightB_iff.1 HR.out; rfl)
        have HI2 : Hid (i.toNat ≤ 9223372036854775807) := Lib.hid (by omega)
        have HLL : Hid (bs.length + 1 ≤ ops.length) := Lib.hid (by have h1 := HLS.out; omega)
        have H3 : Hid (bs.length + 1 ≤ maxLen) := Lib.hid (by have := HLL.out; unfold maxLen; omega)
        have H4 : Hid ((bs.length + 1) * 8 ≤ 140737488355328) := Lib.hid (by have := HLL.out; omega)
        have H6 : Hid ((bs.length + 1) * 40 ≤ 140737488355328) := Lib.hid (by have := HLL.out; omega)
        go_wp2_with (first
          | (go_at_call 24; refine (start_n HS.out.shard HS.out.len HR.out).mono ?_; rintro e w5 ⟨bp, rfl, hn5, hr5, hb5⟩; have HB5 := Lib.hid hb5; have HN5 := Lib.hid hn5; have HR5 := Lib.hid hr5; have HS5 := Lib.hid (HS.out.on hb5); have z0 := (HS5.out.low.cell (p := ⟨b, o + j * 3, none⟩) HB.out).trans E0.out; have z1 := (HS5.out.low.cell (p := ⟨b, o + j * 3 + 1, none⟩) HB.out).trans E1.out; have z2 := (HS5.out.low.cell (p := ⟨b, o + j * 3 + 2, none⟩) HB.out).trans E2.out; clear hb5 hn5 hr5)
          | (go_at_call 25; refine (rright_s HR.out _).mono ?_; rintro e w6 ⟨rfl, hb6⟩; have HB6 := Lib.hid (HB5.out.trans (hb6.mono HB5.out.size)); have HR6 := Lib.hid (HR5.out.below hb6 HR5.out.lt); have HS6 := Lib.hid (HS5.out.on hb6); have g0 := (HS6.out.low.cell (p := ⟨b, o + j * 3, none⟩) HB.out).trans E0.out; have g1 := (HS6.out.low.cell (p := ⟨b, o + j * 3 + 1, none⟩) HB.out).trans E1.out; have g2 := (HS6.out.low.cell (p := ⟨b, o + j * 3 + 2, none⟩) HB.out).trans E2.out; have H5 : Hid (W.heap.size ≤ (w6.alloc (.cells #[.int .u8 k, .int .i64 i, .int .u64 y, .int .i64 0, .int .u64 0] 70)).heap.size) := Lib.hid (by have := HS6.out.low.size; simp; omega); clear hb6)
          | (at_builtin; refine wpList_append_own _ rfl _ _ 60 rfl W.heap.size 70 iu (.agg #[.int .u8 0, .int .i64 0, .int .u64 0, .int .i64 0, .int .u64 0]) 5 40 Try.underlying60 hiu hu0 hu1 hu2 rfl (by decide) _ _ _ rfl (HS6.out.und.alloc _) ⟨w6.heap.size, 0, none⟩ 1 1 [.int .u8 k, .int .i64 i, .int .u64 y, .int .i64 0, .int .u64 0] rfl rfl (new_cellsS _ _ _) (new_fiveS _ _ _) H3.out H6.out H5.out ?_; intro vu' w7 hown7 hgr7 _; have HO7 := Lib.hid hown7; have HG7 := Lib.hid hgr7; have hlow7 := (HS6.out.low.alloc HS6.out.low.size _).grown hgr7 H5.out (own_from HS6.out.und); have PS7 := Lib.hid ((HS6.out.ps.alloc _).kept hgr7 (own_apart HS6.out.ps HS6.out.und (by decide))); have H7 : Hid (W.heap.size ≤ (w7.alloc (.cells #[.pointer (some ⟨bp, 0, none⟩)] 62)).heap.size) := Lib.hid (by have := hlow7.size; simp; omega); clear hown7 hgr7 hlow7)
          | (at_builtin; refine wpList_append_own _ rfl _ _ 61 rfl W.heap.size 62 ip (.pointer none) 1 8 Try.underlying61 hip hp0 hp1 hp2 rfl (by decide) _ _ _ rfl (PS7.out.alloc _) ⟨w7.heap.size, 0, none⟩ 1 1 [.pointer (some ⟨bp, 0, none⟩)] rfl rfl (new_cellsS _ _ _) (one_ptr _) H3.out H4.out H7.out ?_; intro vp' w8 hown8 hgr8 _; have HO8 := Lib.hid hown8; have HG8 := Lib.hid hgr8; clear hown8 hgr8))
        go_roundw
        case rel => exact ⟨j + 1, by omega, by go_num, bs ++ [bp], os ++ [⟨k, i.toNat, y, 0, 0⟩], by rw [List.length_append, List.length_singleton]; omega, fun z hz => by
            rw [List.mem_append] at hz
            rcases hz with hz | hz
            · exact HWE.out z hz
            · simp at hz; subst hz; exact ⟨HRN.out, HI2.out, Nat.zero_le _, fun _ => rfl⟩, HS.out.grow (o := ⟨k, i.toNat, y, 0, 0⟩) HB6.out HR6.out HN5.out HRN.out (by have := HO7.out; rw [← HI.out] at this; exact this) HG7.out HO8.out HG8.out⟩
        case measure => simp [intOf]; omega
    · obtain rfl : j = ops.length := by omega
      have HLN := Lib.hid HS.out.pends.len
      have hnl : bs.length ≤ 1048576 := by have := HLN.out; omega
      obtain ⟨pa, pc, rfl⟩ := own_form HS.out.ps
      obtain ⟨ua, uc, rfl⟩ := own_form HS.out.und
      go_wp2_with (at_make; refine wpList_make_full _ rfl _ _ 71 rfl wr.heap.size 29 iU (.int .u64 0) 1 Try.underlying71 hiU hU0 hU1 .i64 .i64 n n n rfl rfl rfl rfl hbu hmu (Nat.le_refl _) ?_; intro w7 hown7 hgr7; rw [u64s_made2] at hown7; have HS7 := Lib.hid (HS.out.docs ((Below.refl _ _).grown hgr7 (Nat.le_refl _) (by simp)) hown7); clear hown7 hgr7)
      obtain ⟨gd, hgd⟩ : ∃ gd, wr.heap.size = gd := ⟨_, rfl⟩
      rw [hgd] at HS7 ⊢
      clear hgd
      go_loopw [17, 18] (fun vd u wr => ∃ j : Nat, j ≤ xs.length ∧ u = .int .i64 j ∧ ∃ ws os g c, vd = .slice (some ⟨g, 0, none⟩) n c ∧ os.length = bs.length ∧ (∀ o, o ∈ os → WellS n o) ∧ AllS W bc bk bw n n ws os bs os ws (.slice pa bs.length pc) (.slice ua bs.length uc) (.slice (some ⟨g, 0, none⟩) n c) wr) (fun _ u _ => xs.length - (intOf u).toNat)
      case atStart => exact ⟨0, Nat.zero_le _, rfl, _, os, gd, _, rfl, HLN.out.symm, HWE.out, HS7.out⟩
      case round =>
        obtain ⟨j, hj, rfl, ws, os, gd, cd, rfl, hol, hwell, hA⟩ := hrel
        have HA := Lib.hid hA
        have HWE := Lib.hid hwell
        have HOL := Lib.hid hol
        clear hA hwell hol HS7 HS
        by_cases hlt : j < xs.length
        · obtain ⟨k, hk⟩ : ∃ k, xs[j]? = some k := ⟨xs[j], List.getElem?_eq_getElem hlt⟩
          obtain ⟨b', o', rfl, hlt', q0⟩ := (HX.out.on HA.out.low) j _ hk
          have hlt2 : (j : Int) < (xs.length : Int) := by omega
          clear hk
          by_cases hk0 : k < 0
          · go_wp2
            go_roundw
            case rel => exact ⟨j + 1, by omega, by go_num, ws, os, gd, cd, rfl, HOL.out, HWE.out, HA.out⟩
            case measure => simp [intOf]; omega
          by_cases hkn : (bs.length : Int) ≤ k
          · go_wp2
            go_roundw
            case rel => exact ⟨j + 1, by omega, by go_num, ws, os, gd, cd, rfl, HOL.out, HWE.out, HA.out⟩
            case measure => simp [intOf]; omega
          obtain ⟨q, rfl⟩ := Int.eq_ofNat_of_zero_le (show 0 ≤ k by omega)
          have hqn : q < bs.length := by omega
          obtain ⟨o, ho⟩ : ∃ o, os[q]? = some o := ⟨_, List.getElem?_eq_getElem (by have := HOL.out; omega)⟩
          obtain ⟨b, g, c, gu, cu, hb, hv, hv2, hc, hR, hgne, hgl, hgul⟩ := HA.out.get hqn ho
          cases hv
          cases hv2
          have hgne2 : gu ≠ g := fun e => hgne e.symm
          have hq2 : (q : Int) < (bs.length : Int) := by omega
          have hq5 : q * 5 ≤ 17592186044416 := by omega
          have HO := Lib.hid ho
          have HBb := Lib.hid hb
          have HRr := Lib.hid hR
          have HW1o := Lib.hid (HWE.out o (List.mem_of_getElem? ho))
          obtain ⟨k0, k1, k2, k3, k4⟩ := un_cells HA.out.und ho
          have HLE := Lib.hid HA.out.len
          clear ho hb hR
          by_cases hov : many n o.k ≤ o.t
          · have HOV := Lib.hid hov
            have HL : Hid (decide (many n o.k ≤ o.t) = true) := Lib.hid (by simpa using hov)
            have HAN : Hid ((if many n o.k ≤ o.t then o.s else 0) = o.s) := Lib.hid (if_pos hov)
            clear hov
            go_wp2_with (first
            | (go_at_call 26; refine (step_over HOV.out HRr.out).mono ?_; rintro e w2 ⟨rfl, hb2⟩; have HA2 := Lib.hid ((HA.out.on hb2).alloc (.cells #[.int .u8 0, .int .i64 0, .int .u64 0, .int .u64 0, .bool false] 45)); have HA3 := Lib.hid (HA2.out.alloc (.cells #[.int .u8 0, .int .i64 0, .int .u64 0, .int .u64 0, .bool false] 45)); have HR2 := Lib.hid (((HRr.out.below hb2 HRr.out.lt).alloc (.cells #[.int .u8 0, .int .i64 0, .int .u64 0, .int .u64 0, .bool false] 45)).alloc (.cells #[.int .u8 0, .int .i64 0, .int .u64 0, .int .u64 0, .bool false] 45)); obtain ⟨l0, l1, l2, l3, l4⟩ := un_cells HA3.out.und HO.out; have hsz2 := hb2.size; have hgl2 : g < w2.heap.size := (by omega); have hgul2 : gu < w2.heap.size := (by omega); have HD1 := Lib.hid ((Row.new w2 45 [.int .u8 0, .int .i64 0, .int .u64 0, .int .u64 0, .bool false]).alloc (.cells #[.int .u8 0, .int .i64 0, .int .u64 0, .int .u64 0, .bool false] 45)); have HD2 := Lib.hid (Row.new2 w2 (.cells #[.int .u8 0, .int .i64 0, .int .u64 0, .int .u64 0, .bool false] 45) 45 [.int .u8 0, .int .i64 0, .int .u64 0, .int .u64 0, .bool false] rfl); clear hb2)
            | (go_at_call 27; first
                | ((with_reducible refine (rended_at HL.out (w2.alloc (.cells #[.int .u8 0, .int .i64 0, .int .u64 0, .int .u64 0, .bool false] 45) |>.alloc (.cells #[.int .u8 0, .int .i64 0, .int .u64 0, .int .u64 0, .bool false] 45))).mono ?_); rintro e w3 ⟨rfl, hb3⟩; have HA4 := Lib.hid (HA3.out.on hb3); have HR4 := Lib.hid (HR2.out.below hb3 HR2.out.lt); have HE1 := Lib.hid (HD1.out.below hb3 HD1.out.lt); have HE2 := Lib.hid (HD2.out.below hb3 HD2.out.lt); obtain ⟨m0, m1, m2, m3, m4⟩ := un_cells HA4.out.und HO.out; have hsz3 := hb3.size; simp at hsz3; have hgul3 : gu < w3.heap.size := (by omega); clear hb3)
                | ((with_reducible refine (rended_at HL.out w3).mono ?_); rintro e w5 ⟨rfl, hb5⟩; have HA5 := Lib.hid (HA4.out.on hb5); have HR5 := Lib.hid (HR4.out.below hb5 HR4.out.lt); have hF1 := HE1.out.below hb5 HE1.out.lt; have hF2 := HE2.out.below hb5 HE2.out.lt; obtain ⟨v0, v1, v2, v3, v4⟩ := hF1.five; obtain ⟨g0, g1, g2, g3, g4⟩ := hF2.five; obtain ⟨n0, n1, n2, n3, n4⟩ := un_cells HA5.out.und HO.out; have pc5 := own_cell HA5.out.ps (ptrs_get HBb.out); have hsz5 := hb5.size; have hgul5 : gu < w5.heap.size := (by omega); have hgl5 : g < w5.heap.size := (by omega); clear hb5 hF1 hF2))
            | (go_at_call 29; refine (sdone_at HR5.out HL.out).mono ?_; rintro e wx ⟨rfl, rfl⟩)
            | (go_at_call 30; refine (sanswer_at HR5.out HAN.out).mono ?_; rintro e wx ⟨rfl, rfl⟩))
            go_roundw
            case rel => exact ⟨j + 1, by omega, by go_num, ws, os, gd, cd, rfl, HOL.out, HWE.out, HA5.out⟩
            case measure => simp [intOf]; omega
          have HOV : Hid (o.t < many n o.k) := Lib.hid (by omega)
          have HLO : Hid (decide (many n o.k ≤ o.t) = false) := Lib.hid (by simp; omega)
          have HT := HOV
          have HN0 : Hid (0 < n) := Lib.hid (by omega)
          clear hov
          obtain ⟨x, hx⟩ : ∃ x, ws[cellOf n o.k o.i o.t]? = some x := ⟨_, List.getElem?_eq_getElem (by rw [HLE.out]; exact cell_lt HN0.out HT.out)⟩
          have HXx := Lib.hid hx
          have HUX := Lib.hid (HA.out.shard.words.ok x (List.mem_of_getElem? hx))
          obtain ⟨ws', hws⟩ : ∃ ws', ws.set (cellOf n o.k o.i o.t) (putOf o.k o.y x) = ws' := ⟨_, rfl⟩
          obtain ⟨o', hos⟩ : ∃ o' : OpS, (⟨o.k, o.i, o.y, o.t + 1, sumOf o.k o.y o.s x⟩ : OpS) = o' := ⟨_, rfl⟩
          obtain ⟨d0, d1, d2, d3, hdi⟩ := did_fiveS n o.k o.i o.y o.t x
          have HWS := Lib.hid hws
          have HOS := Lib.hid hos
          have HDI := Lib.hid hdi
          have HWL : Hid (ws'.length = n) := Lib.hid (by rw [← hws, List.length_set]; exact HLE.out)
          have HRO : Hid (RightN o'.k o'.i o'.y) := Lib.hid (by rw [← hos]; exact HW1o.out.1)
          have HOQ : Hid ((os.set q o')[q]? = some o') := Lib.hid (List.getElem?_set_self (lt_of_get HO.out))
          have HWE2 : Hid (∀ z, z ∈ os.set q o' → WellS n z) := Lib.hid (fun z hz => by
            rcases List.mem_or_eq_of_mem_set hz with hz | rfl
            · exact HWE.out z hz
            · rw [← HOS.out]; exact ⟨HW1o.out.1, HW1o.out.2.1, HT.out, fun h0 => by simp at h0⟩)
          clear hx hws hos hdi
          by_cases hla : many n o'.k ≤ o'.t
          · skip
            have HL : Hid (decide (many n o'.k ≤ o'.t) = true) := Lib.hid (by simpa using hla)
            have HAN : Hid ((if many n o'.k ≤ o'.t then o'.s else 0) = o'.s) := Lib.hid (if_pos hla)
            clear hla
            go_wp2_with (first
            | (go_at_call 26; refine (sstep_at HA.out.shard.words HLE.out HN0.out HW1o.out.1 HT.out HRr.out HXx.out HWS.out HOS.out HDI.out HL.out).mono ?_; intro e w2 hs; have hcp := hs; obtain ⟨he, _, hR2, hP2⟩ := hs; subst he; have hsz2 := hP2.size; have HA2 := Lib.hid ((HA.out.code HO.out HBb.out HWL.out HRO.out hcp).alloc (.cells #[.int .u8 d0, .int .i64 d1, .int .u64 d2, .int .u64 d3, .bool true] 45)); have HA3 := Lib.hid (HA2.out.alloc (.cells #[.int .u8 0, .int .i64 0, .int .u64 0, .int .u64 0, .bool false] 45)); have HR2 := Lib.hid ((hR2.alloc (.cells #[.int .u8 d0, .int .i64 d1, .int .u64 d2, .int .u64 d3, .bool true] 45)).alloc (.cells #[.int .u8 0, .int .i64 0, .int .u64 0, .int .u64 0, .bool false] 45)); obtain ⟨l0, l1, l2, l3, l4⟩ := un_cells HA3.out.und HO.out; have hgl2 : g < w2.heap.size := (by omega); have hgul2 : gu < w2.heap.size := (by omega); have HD1 := Lib.hid ((Row.new w2 45 [.int .u8 d0, .int .i64 d1, .int .u64 d2, .int .u64 d3, .bool true]).alloc (.cells #[.int .u8 0, .int .i64 0, .int .u64 0, .int .u64 0, .bool false] 45)); have HD2 := Lib.hid (Row.new2 w2 (.cells #[.int .u8 d0, .int .i64 d1, .int .u64 d2, .int .u64 d3, .bool true] 45) 45 [.int .u8 0, .int .i64 0, .int .u64 0, .int .u64 0, .bool false] rfl); clear hcp hR2 hP2)
            | (go_at_call 27; first
                | ((with_reducible refine (rended_at HLO.out (w2.alloc (.cells #[.int .u8 d0, .int .i64 d1, .int .u64 d2, .int .u64 d3, .bool true] 45) |>.alloc (.cells #[.int .u8 0, .int .i64 0, .int .u64 0, .int .u64 0, .bool false] 45))).mono ?_); rintro e w3 ⟨rfl, hb3⟩; have HA4 := Lib.hid (HA3.out.on hb3); have HR4 := Lib.hid (HR2.out.below hb3 HR2.out.lt); have HE1 := Lib.hid (HD1.out.below hb3 HD1.out.lt); have HE2 := Lib.hid (HD2.out.below hb3 HD2.out.lt); obtain ⟨m0, m1, m2, m3, m4⟩ := un_cells HA4.out.und HO.out; have hsz3 := hb3.size; simp at hsz3; have hgul3 : gu < w3.heap.size := (by omega); clear hb3)
                | (have hmd := rended_at HL.out (((((unSet w4 gu (q * 5) o').setCell ⟨w2.heap.size + 1, 0, none⟩ (.int .u8 d0)).setCell ⟨w2.heap.size + 1, 1, none⟩ (.int .i64 d1)).setCell ⟨w2.heap.size + 1, 2, none⟩ (.int .u64 d2)).setCell ⟨w2.heap.size + 1, 3, none⟩ (.int .u64 d3) |>.setCell ⟨w2.heap.size + 1, 4, none⟩ (.bool true)) (i := o'.i) (y := o'.y) (s := o'.s); unfold unSet at hmd; refine hmd.mono ?_; clear hmd; rintro e w6 ⟨rfl, hb6⟩; have HA7 := Lib.hid (HA6.out.on hb6); have HR7 := Lib.hid (HR6.out.below hb6 HR6.out.lt); have hF1 := HG1.out.below hb6 HG1.out.lt; have hF2 := HG2.out.below hb6 HG2.out.lt; obtain ⟨v0, v1, v2, v3, v4⟩ := hF1.five; obtain ⟨g0, g1, g2, g3, g4⟩ := hF2.five; obtain ⟨n0, n1, n2, n3, n4⟩ := un_cells HA7.out.und HOQ.out; have pc5 := own_cell HA7.out.ps (ptrs_get HBb.out); have hsz6 := hb6.size; simp at hsz6; have hgul6 : gu < w6.heap.size := (by omega); have hgl6 : g < w6.heap.size := (by omega); clear hb6 hF1 hF2))
            | (go_at_call 28; refine (rs_two (own_lies HA4.out.doc) (World.block_lt_of_cell? _ _ ((own_lies HA4.out.doc) _ _ HXx.out)) HLE.out HN0.out h2 HW1o.out.1 HW1o.out.2.1 HT.out HW1o.out.2.2.2 HXx.out HUX.out HWS.out HOS.out HDI.out).mono ?_; rintro e w4 ⟨gd', cd', rfl, hg4, hown4, hb4⟩; have HA5 := Lib.hid (HA4.out.docs hb4 hown4); have hr5 := HR4.out.below hb4 HR4.out.lt; have he1 := HE1.out.below hb4 HE1.out.lt; have he2 := HE2.out.below hb4 HE2.out.lt; obtain ⟨r0, r1, r2, r3, r4⟩ := un_cells HA5.out.und HO.out; have rf := HA5.out.und.frozenAt; obtain ⟨t0, t1, t2, t3, t4⟩ := he2.five; have tf := he2.free; have tlt := he2.lt; have hsz4 := hb4.size; have hgul4 : gu < w4.heap.size := (by omega); have hgu1 : gu ≠ w2.heap.size + 1 := (by omega); have hgu2 : w2.heap.size + 1 ≠ gu := (by omega); have HU6 := Lib.hid (HA5.out.unds (o' := o') HO.out); have hr6 := hr5.part (un_part w4 gu (q * 5) o') (by simpa using (fun e => own_off HA5.out.und hr5 (by decide) gu rfl e.symm)); have hu1 := he1.part (un_part w4 gu (q * 5) o') (by simp; omega); have hu2 := he2.part (un_part w4 gu (q * 5) o') (by simp; omega); have HA6 := Lib.hid (HU6.out.off hu2 (by have := HA2.out.low.size; simp at this; omega) (did_part _ _ d0 d1 d2 d3) (by decide) (by decide) (by decide) (by decide) (by decide) (by decide) (by decide)); have HR6 := Lib.hid (hr6.part (did_part _ (w2.heap.size + 1) d0 d1 d2 d3) (by simpa using hr6.ne hu2 (by decide))); have HG1 := Lib.hid (hu1.part (did_part _ (w2.heap.size + 1) d0 d1 d2 d3) (by simp)); have HG2 := Lib.hid (did_set (d0 := d0) (d1 := d1) (d2 := d2) (d3 := d3) hu2); clear hg4 hown4 hb4 hr5 he1 he2 hr6 hu1 hu2)
            | (go_at_call 29; refine (sdone_at HR7.out HL.out).mono ?_; rintro e wx ⟨rfl, rfl⟩)
              | (go_at_call 30; refine (sanswer_at HR7.out HAN.out).mono ?_; rintro e wx ⟨rfl, rfl⟩))
            go_roundw
            case rel => exact ⟨j + 1, by omega, by go_num, ws', os.set q o', gd', cd', rfl, by rw [List.length_set]; exact HOL.out, HWE2.out, HA7.out⟩
            case measure => simp [intOf]; omega
          · skip
            have HL : Hid (decide (many n o'.k ≤ o'.t) = false) := Lib.hid (by simp; omega)
            have HAN : Hid ((if many n o'.k ≤ o'.t then o'.s else 0) = 0) := Lib.hid (if_neg hla)
            clear hla
            go_wp2_with (first
            | (go_at_call 26; refine (sstep_at HA.out.shard.words HLE.out HN0.out HW1o.out.1 HT.out HRr.out HXx.out HWS.out HOS.out HDI.out HL.out).mono ?_; intro e w2 hs; have hcp := hs; obtain ⟨he, _, hR2, hP2⟩ := hs; subst he; have hsz2 := hP2.size; have HA2 := Lib.hid ((HA.out.code HO.out HBb.out HWL.out HRO.out hcp).alloc (.cells #[.int .u8 d0, .int .i64 d1, .int .u64 d2, .int .u64 d3, .bool true] 45)); have HA3 := Lib.hid (HA2.out.alloc (.cells #[.int .u8 0, .int .i64 0, .int .u64 0, .int .u64 0, .bool false] 45)); have HR2 := Lib.hid ((hR2.alloc (.cells #[.int .u8 d0, .int .i64 d1, .int .u64 d2, .int .u64 d3, .bool true] 45)).alloc (.cells #[.int .u8 0, .int .i64 0, .int .u64 0, .int .u64 0, .bool false] 45)); obtain ⟨l0, l1, l2, l3, l4⟩ := un_cells HA3.out.und HO.out; have hgl2 : g < w2.heap.size := (by omega); have hgul2 : gu < w2.heap.size := (by omega); have HD1 := Lib.hid ((Row.new w2 45 [.int .u8 d0, .int .i64 d1, .int .u64 d2, .int .u64 d3, .bool true]).alloc (.cells #[.int .u8 0, .int .i64 0, .int .u64 0, .int .u64 0, .bool false] 45)); have HD2 := Lib.hid (Row.new2 w2 (.cells #[.int .u8 d0, .int .i64 d1, .int .u64 d2, .int .u64 d3, .bool true] 45) 45 [.int .u8 0, .int .i64 0, .int .u64 0, .int .u64 0, .bool false] rfl); clear hcp hR2 hP2)
            | (go_at_call 27; first
                | ((with_reducible refine (rended_at HLO.out (w2.alloc (.cells #[.int .u8 d0, .int .i64 d1, .int .u64 d2, .int .u64 d3, .bool true] 45) |>.alloc (.cells #[.int .u8 0, .int .i64 0, .int .u64 0, .int .u64 0, .bool false] 45))).mono ?_); rintro e w3 ⟨rfl, hb3⟩; have HA4 := Lib.hid (HA3.out.on hb3); have HR4 := Lib.hid (HR2.out.below hb3 HR2.out.lt); have HE1 := Lib.hid (HD1.out.below hb3 HD1.out.lt); have HE2 := Lib.hid (HD2.out.below hb3 HD2.out.lt); obtain ⟨m0, m1, m2, m3, m4⟩ := un_cells HA4.out.und HO.out; have hsz3 := hb3.size; simp at hsz3; have hgul3 : gu < w3.heap.size := (by omega); clear hb3)
                | (have hmd := rended_at HL.out (((((unSet w4 gu (q * 5) o').setCell ⟨w2.heap.size + 1, 0, none⟩ (.int .u8 d0)).setCell ⟨w2.heap.size + 1, 1, none⟩ (.int .i64 d1)).setCell ⟨w2.heap.size + 1, 2, none⟩ (.int .u64 d2)).setCell ⟨w2.heap.size + 1, 3, none⟩ (.int .u64 d3) |>.setCell ⟨w2.heap.size + 1, 4, none⟩ (.bool true)) (i := o'.i) (y := o'.y) (s := o'.s); unfold unSet at hmd; refine hmd.mono ?_; clear hmd; rintro e w6 ⟨rfl, hb6⟩; have HA7 := Lib.hid (HA6.out.on hb6); have HR7 := Lib.hid (HR6.out.below hb6 HR6.out.lt); have hF1 := HG1.out.below hb6 HG1.out.lt; have hF2 := HG2.out.below hb6 HG2.out.lt; obtain ⟨v0, v1, v2, v3, v4⟩ := hF1.five; obtain ⟨g0, g1, g2, g3, g4⟩ := hF2.five; obtain ⟨n0, n1, n2, n3, n4⟩ := un_cells HA7.out.und HOQ.out; have pc5 := own_cell HA7.out.ps (ptrs_get HBb.out); have hsz6 := hb6.size; simp at hsz6; have hgul6 : gu < w6.heap.size := (by omega); have hgl6 : g < w6.heap.size := (by omega); clear hb6 hF1 hF2))
            | (go_at_call 28; refine (rs_two (own_lies HA4.out.doc) (World.block_lt_of_cell? _ _ ((own_lies HA4.out.doc) _ _ HXx.out)) HLE.out HN0.out h2 HW1o.out.1 HW1o.out.2.1 HT.out HW1o.out.2.2.2 HXx.out HUX.out HWS.out HOS.out HDI.out).mono ?_; rintro e w4 ⟨gd', cd', rfl, hg4, hown4, hb4⟩; have HA5 := Lib.hid (HA4.out.docs hb4 hown4); have hr5 := HR4.out.below hb4 HR4.out.lt; have he1 := HE1.out.below hb4 HE1.out.lt; have he2 := HE2.out.below hb4 HE2.out.lt; obtain ⟨r0, r1, r2, r3, r4⟩ := un_cells HA5.out.und HO.out; have rf := HA5.out.und.frozenAt; obtain ⟨t0, t1, t2, t3, t4⟩ := he2.five; have tf := he2.free; have tlt := he2.lt; have hsz4 := hb4.size; have hgul4 : gu < w4.heap.size := (by omega); have hgu1 : gu ≠ w2.heap.size + 1 := (by omega); have hgu2 : w2.heap.size + 1 ≠ gu := (by omega); have HU6 := Lib.hid (HA5.out.unds (o' := o') HO.out); have hr6 := hr5.part (un_part w4 gu (q * 5) o') (by simpa using (fun e => own_off HA5.out.und hr5 (by decide) gu rfl e.symm)); have hu1 := he1.part (un_part w4 gu (q * 5) o') (by simp; omega); have hu2 := he2.part (un_part w4 gu (q * 5) o') (by simp; omega); have HA6 := Lib.hid (HU6.out.off hu2 (by have := HA2.out.low.size; simp at this; omega) (did_part _ _ d0 d1 d2 d3) (by decide) (by decide) (by decide) (by decide) (by decide) (by decide) (by decide)); have HR6 := Lib.hid (hr6.part (did_part _ (w2.heap.size + 1) d0 d1 d2 d3) (by simpa using hr6.ne hu2 (by decide))); have HG1 := Lib.hid (hu1.part (did_part _ (w2.heap.size + 1) d0 d1 d2 d3) (by simp)); have HG2 := Lib.hid (did_set (d0 := d0) (d1 := d1) (d2 := d2) (d3 := d3) hu2); clear hg4 hown4 hb4 hr5 he1 he2 hr6 hu1 hu2)
            | (go_at_call 29; refine (sdone_at HR7.out HL.out).mono ?_; rintro e wx ⟨rfl, rfl⟩)
              | (go_at_call 30; refine (sanswer_at HR7.out HAN.out).mono ?_; rintro e wx ⟨rfl, rfl⟩))
            go_roundw
            case rel => exact ⟨j + 1, by omega, by go_num, ws', os.set q o', gd', cd', rfl, by rw [List.length_set]; exact HOL.out, HWE2.out, HA7.out⟩
            case measure => simp [intOf]; omega
        · obtain rfl : j = xs.length := by omega
          have HUL := Lib.hid HA.out.len
          go_wp2_with (first
            | (go_at_call 32; refine (call_any HA.out.shard).mono ?_; rintro e w6 ⟨b6, rfl, hb6, hr6, hw6⟩; have HR6 := Lib.hid hr6; have HW6 := Lib.hid hw6; have HA6 := Lib.hid (HA.out.on hw6); clear hb6 hr6 hw6)
            | (go_at_call 31; refine (same_yes HR6.out.lies (own_lies HA6.out.doc) (by have := HUL.out; omega) rfl HUL.out).mono ?_; rintro e w8 ⟨rfl, hb8⟩; have HB8 := Lib.hid (HA6.out.low.trans (hb8.mono HA6.out.low.size)); clear hb8)
            | (go_at_call 22; refine (begins_any _).mono ?_; rintro e w9 ⟨rfl, hb⟩; have HB9 := Lib.hid hb; clear hb))
          go_ret
          exact ⟨rfl, HB8.out.trans (HB9.out.mono HB8.out.size)⟩
end Go.Proofs.Ytcocegneegjcpaa
