/- THE WALK of the law 'SnapLost'. -/
import Derived.Test.YtiofbmgflhkjnaaPw
import Derived.Deep.RegionHeld3
import Derived.Deep.Cut
namespace Go.Proofs.Ytiofbmgflhkjnaa
open Go Go.RowKit

theorem infoI : (Try.prog.info? 3).map (fun i => (i.zero, i.size, i.bytes)) = some (some (.int .i64 0), 1, 8) := by kernel_rfl
set_option maxRecDepth 100000
theorem slost_no {n : Int} (h : n < 1 ∨ 64 < n) {A B : Option Addr} {len cap len' cap' : Nat} (W : World) :
    Calls Try.prog 8 #[.int .i64 n, .slice A len cap, .slice B len' cap'] W fun e w' => e = .returned (.bool true) ∧ Below W.heap.size W w' := by
  have H := Lib.hid h
  clear h
  go_enter Try.func8, Try.ntmps8
  go_wp2_with (first
    | (go_at_call 11; refine (rbegins_any _).mono ?_; rintro e w0 ⟨rfl, hb⟩; have HB0 := Lib.hid hb; clear hb)
    | (go_at_call 10; refine (rnew_no H.out).mono ?_; rintro e wx ⟨rfl, rfl⟩))
  go_ret
  exact ⟨rfl, HB0.out⟩
theorem one_i64 (x : Int) : ∀ u ∈ [Value.int .i64 x], u.oneCell' = true := by intro u hu; simp at hu; subst hu; rfl
theorem ext4_at {W w : World} {A : Option Addr} {ops : List (Int × Int × Int × Int)} (h : Ext4 .u8 .i64 .u32 .i64 W A ops) (hb : Below W.heap.size W w) : Ext4 .u8 .i64 .u32 .i64 w A ops := h.on hb
/-- the operations and the words behind the first i actions of the order -/
structure LostAt (W : World) (n br bk bw : Nat) (ws0 : List Int) (os0 : List OpQ) (bs : List Nat) (vp vk : Value) (gw : Nat) (vo : Value) (ord : List Int) (i : Nat) (wr : World) : Prop where
  st : ∃ Fs, LostSt W n br bk bw (runL (ws0, os0) (ord.take i)).1 (runL (ws0, os0) (ord.take i)).2 bs Fs vp vk gw (runL (ws0, os0) (ord.take i)).1 vo ord wr

theorem rall_m {w : World} {br bk bw n : Nat} {ws : List Int} (h : Regs w br bk bw ws) (hn : ws.length = n) :
    Calls Try.prog 20 #[.pointer (some ⟨br, 0, none⟩)] w fun e w' => ∃ b, e = .returned (.slice (some ⟨b, 0, none⟩) n n) ∧ w.heap.size ≤ b ∧ Row w' b 60 (regCells ws) ∧ Below w.heap.size w w' := by
  subst hn
  exact rall_any h
section
variable {W wr w1 : World} {n br bk bw gw : Nat} {ws wt ord : List Int} {os : List OpQ} {bs : List Nat} {Fs : List (List Nat)} {vp vk vo : Value}
theorem LostSt.alloc (h : LostSt W n br bk bw ws os bs Fs vp vk gw wt vo ord wr) (o : Obj) : LostSt W n br bk bw ws os bs Fs vp vk gw wt vo ord (wr.alloc o) := h.on ((Below.refl _ _).alloc (Nat.le_refl _) o)
theorem LostSt.drewN (h : LostSt W n br bk bw ws os bs Fs vp vk gw wt vo ord wr) (m : Nat) : LostSt W n br bk bw ws os bs Fs vp vk gw wt vo ord (wr.drewN m) := h.on (Below.draws (Below.refl _ _) m)
theorem LostSt.drew (h : LostSt W n br bk bw ws os bs Fs vp vk gw wt vo ord wr) : LostSt W n br bk bw ws os bs Fs vp vk gw wt vo ord wr.drew := h.drewN 1
theorem LostSt.put {ri : Nat} {a b x : Int} (h : LostSt W n br bk bw ws os bs Fs vp vk gw wt vo ord wr) (ha : a = numW x) (hb : b = valW x) : LostSt W n br bk bw ws os bs Fs vp vk gw (wt.set ri x) vo ord ((wr.setCell ⟨gw, ri * 2, none⟩ (.int .u32 a)).setCell ⟨gw, ri * 2 + 1, none⟩ (.int .u32 b)) :=
  h.wantSet ((h.want.set (ri * 2) (.int .u32 a)).set (ri * 2 + 1) (.int .u32 b)) (by rw [ha, hb, regCells_set]) (((Part.refl [gw] _).set (p := ⟨gw, ri * 2, none⟩) (by simp) _).set (p := ⟨gw, ri * 2 + 1, none⟩) (by simp) _)
theorem lost_answer {q b : Nat} {o : OpQ} {x : Int} (h : LostSt W n br bk bw ws os bs Fs vp vk gw wt vo ord wr) (ho : os[q]? = some o) (hb : bs[q]? = some b) (hph : o.ph = 2) (hxs : o.xs = [x]) (hk : o.k = 1) :
    Calls Try.prog 18 #[.pointer (some ⟨b, 0, none⟩)] wr fun e w' => ∃ b' cb, e = .returned (.agg #[.slice (some ⟨b', 0, none⟩) 1 cb, .bool o.cl, .int .i64 0]) ∧ b' < w'.heap.size ∧ LiesR w' (some ⟨b', 0, none⟩) [x] ∧ Below wr.heap.size wr w' := by
  obtain ⟨o', b0, F, gp, cp, gk, ck, h1, h2, h3, h4, h5, _⟩ := h.many.get (lt_of_get hb)
  rw [ho] at h1
  cases h1
  rw [hb] at h2
  cases h2
  refine (qanswer_op h4 hph (m := 1) (by rw [hxs]; rfl) rfl (q := 0) (by rw [if_neg (by omega)])).mono ?_
  rintro e w' ⟨b', cb, rfl, h6, h7, h8⟩
  rw [hxs] at h7
  exact ⟨b', cb, rfl, own_block h7 _ rfl, own_liesR h7, h8⟩
theorem LiesR.over {g : Nat} {xs : List Int} (h : LiesR wr (some ⟨g, 0, none⟩) xs) (hg : g < wr.heap.size) (o : Obj) : LiesR (wr.alloc o) (some ⟨g, 0, none⟩) xs := fun j x hj => by
  obtain ⟨g', e, c0, c1⟩ := h j x hj
  cases e
  have hb : Below wr.heap.size wr (wr.alloc o) := (Below.refl _ _).alloc (Nat.le_refl _) _
  exact ⟨g, rfl, (hb.cell (p := ⟨g, j * 2, none⟩) hg).trans c0, (hb.cell (p := ⟨g, j * 2 + 1, none⟩) hg).trans c1⟩
/-- the one register that stands in a block of its own -/
theorem one_reg (w : World) (x : Int) : LiesR (w.alloc (.cells #[.int .u32 (numW x), .int .u32 (valW x)] 60)) (some ⟨w.heap.size, 0, none⟩) [x] := (Row.new w 60 (regCells [x])).liesR
theorem one_row (w : World) (x : Int) : Row (w.alloc (.cells #[.int .u32 (numW x), .int .u32 (valW x)] 60)) w.heap.size 60 (regCells [x]) := Row.new w 60 (regCells [x])
theorem one_yes {w : World} {A B : Option Addr} {c c' : Nat} {x : Int} (h : LiesR w A [x]) (h' : LiesR w B [x]) :
    Calls Try.prog 19 #[.slice A 1 c, .slice B 1 c'] w fun e w' => e = .returned (.bool true) ∧ ∃ m, w' = w.drewN m := dregs_yes (n := 1) h h' rfl (by omega)
end
set_option maxHeartbeats 6400000 in
theorem slost_yes {n : Nat} (h1 : 1 ≤ n) (h64 : n ≤ 64) {A B : Option Addr} {cap cap' : Nat} {ops : List (Int × Int × Int × Int)} {xs : List Int} (W : World) (hE : Ext4 .u8 .i64 .u32 .i64 W A ops) (hv : ∀ op ∈ ops, U32 op.2.2.1) (hr : ops.length ≤ 1048576) (hX : Ext .i64 W B xs) (hr2 : xs.length ≤ 1048576) :
    Calls Try.prog 8 #[.int .i64 (n : Int), .slice A ops.length cap, .slice B xs.length cap'] W fun e w' => e = .returned (.bool true) ∧ Below W.heap.size W w' := by
  obtain ⟨i0, hi, hz0, hz1, hz2⟩ := info_parts infoReg
  obtain ⟨ii, hii, hi0, hi1, hi2⟩ := info_parts infoI
  have HE := Lib.hid hE
  have HV := Lib.hid hv
  have HXS := Lib.hid hX
  have H1 := Lib.hid h1
  have H64 := Lib.hid h64
  have hbn : i0.bytes * n ≤ 281474976710656 := by rw [hz2]; omega
  have hmn : n ≤ maxLen := by unfold maxLen; omega
  have HR : Hid (ops.length * 32 ≤ 140737488351232) := Lib.hid (by omega)
  clear hE h1 hv hX
  go_enter Try.func8, Try.ntmps8
  go_wp2_with (first
    | (go_at_call 11; refine (rbegins_any _).mono ?_; rintro e w0 ⟨rfl, hb⟩; have HB0 := Lib.hid hb; clear hb)
    | (go_at_call 10; refine (rnew_yes w0 H1.out H64.out).mono ?_; rintro e w1 ⟨br, bk, bw, rfl, hc, hk, hw, hS, hb⟩; have HS1 : Hid (SnSt W n br bk bw (List.replicate n 0) w1) := Lib.hid ⟨hS, by simp, Nat.le_trans HB0.out.size hw, HB0.out.trans (hb.mono HB0.out.size)⟩; clear hc hk hw hS hb)
    | (go_at_call 26; refine (under_any HS1.out HE.out HV.out HR.out).mono ?_; rintro e w2 ⟨vp, vk, bs, Fs, rfl, hM⟩; have HM := Lib.hid hM; obtain ⟨ap, cp, rfl⟩ := own_form hM.ps; obtain ⟨ak, ck, rfl⟩ := own_form hM.ks; have HPL := Lib.hid hM.pends.len; clear hM)
    | (at_make; refine wpList_make_full _ rfl _ _ 41 rfl w2.heap.size 60 i0 (.agg #[.int .u32 0, .int .u32 0]) 2 Try.underlying41 hi hz0 hz1 .i64 .i64 n n n rfl rfl rfl rfl hbn hmn (Nat.le_refl _) ?_; intro w3 hown hgr; have hr3 := row_of_full hown; rw [regs_noughts] at hr3; have HL : Hid (LostSt W n br bk bw (List.replicate n 0) (pickQ n ops) bs Fs (.slice ap bs.length cp) (.slice ak bs.length ck) w2.heap.size (List.replicate n 0) (.slice none 0 0) [] w3) := Lib.hid (LostSt.nil (X := []) HM.out hr3 ((Below.refl _ _).grown hgr (Nat.le_refl _) (by simp)) (Nat.le_refl _)); clear hown hgr hr3))
  have HBL : Hid (bs.length ≤ 1048576) := Lib.hid (by have := pickQ_length n ops; have := HPL.out; omega)
  have HN := Lib.hid h64
  clear hi hz0 hz1 hz2 hbn hmn HS1 HM HR
  go_loopw [12, 13] (fun vo i wr => ∃ k : Nat, k ≤ xs.length ∧ i = .int .i64 k ∧ LostSt W n br bk bw (List.replicate n 0) (pickQ n ops) bs Fs (.slice ap bs.length cp) (.slice ak bs.length ck) w2.heap.size (List.replicate n 0) vo (xs.take k) wr) (fun _ i _ => xs.length - (intOf i).toNat)
  case atStart => exact ⟨0, Nat.zero_le _, rfl, HL.out⟩
  case round =>
    obtain ⟨k, hk, rfl, hL⟩ := hrel
    have HL := Lib.hid hL
    clear hL
    by_cases hlt : k < xs.length
    · obtain ⟨x, hx⟩ : ∃ x, xs[k]? = some x := ⟨xs[k], List.getElem?_eq_getElem hlt⟩
      obtain ⟨b, o, rfl, hbl, e0⟩ := (HXS.out.on HL.out.many.st.low) k x hx
      have HLEN : Hid ((xs.take k).length = k) := Lib.hid (by rw [List.length_take]; omega)
      have HXk := Lib.hid hx
      have H3 : Hid (k + 1 ≤ maxLen) := Lib.hid (by unfold maxLen; omega)
      have H4 : Hid ((k + 1) * 8 ≤ 140737488355328) := Lib.hid (by omega)
      have H5 : Hid (W.heap.size ≤ (wr.alloc (.cells #[.int .i64 x] 3)).heap.size) := Lib.hid (by have := HL.out.many.st.low.size; simp; omega)
      clear hx
      go_wp2_with (at_builtin; refine wpList_append_lies _ rfl _ _ 23 rfl W.heap.size 3 ii (.int .i64 0) 1 8 Try.underlying23 hii hi0 hi1 hi2 rfl (by decide) _ k _ rfl ((HL.out.ordn HLEN.out).alloc _) ⟨wr.heap.size, 0, none⟩ 1 1 [.int .i64 x] rfl rfl (new_cells _ _ _) (one_i64 _) (by omega) H3.out H4.out H5.out _ rfl ?_; intro g c w5 hown5 hgr5 hat5 _; have HL5 := Lib.hid (HL.out.app' HLEN.out hown5 hgr5 hat5); clear hown5 hgr5 hat5)
      go_roundw
      case rel => exact ⟨k + 1, by omega, by go_num, by rw [List.take_add_one, HXk.out]; exact HL5.out⟩
      case measure => simp [intOf]; omega
    · obtain rfl : k = xs.length := by omega
      have HL0 := Lib.hid (show LostSt W n br bk bw (List.replicate n 0) (pickQ n ops) bs Fs (.slice ap bs.length cp) (.slice ak bs.length ck) w2.heap.size (List.replicate n 0) _ (xs ++ tailTo n (pickQ n ops) 0) wr from by have := HL.out; rw [List.take_length] at this; rw [show tailTo n (pickQ n ops) 0 = [] from rfl, List.append_nil]; exact this)
      go_wp2
      go_loopw [12, 14] (fun vo i wr => ∃ k : Nat, k ≤ bs.length ∧ i = .int .i64 k ∧ LostSt W n br bk bw (List.replicate n 0) (pickQ n ops) bs Fs (.slice ap bs.length cp) (.slice ak bs.length ck) w2.heap.size (List.replicate n 0) vo (xs ++ tailTo n (pickQ n ops) k) wr) (fun _ i _ => bs.length - (intOf i).toNat)
      case atStart => exact ⟨0, Nat.zero_le _, rfl, HL0.out⟩
      case round =>
        obtain ⟨k, hk, rfl, hL⟩ := hrel
        have HL := Lib.hid hL
        clear hL HL0
        by_cases hlt : k < bs.length
        · have hlb : (k : Int) < (bs.length : Int) := by omega
          obtain ⟨o, b, F, gp, cp', gk, ck', ho, hb, hF, hq, hok, hvp, hvk, cc0, cc1, cc2, cc3, hgp, hgk⟩ := HL.out.many.get hlt
          cases hvp
          cases hvk
          have HO := Lib.hid ho
          have HSN : Hid (stepsQ n (((pickQ n ops).map OpQ.k).getD k 0) = stepsQ n o.k) := Lib.hid (by simp [List.getD, ho])
          have hk4 : k * 4 ≤ 52776558132480 := by have := HBL.out; omega
          have HTL := Lib.hid (tailTo_length n (pickQ n ops) k H1.out)
          have HKB : Hid (3 * n * k ≤ 201326592) := Lib.hid (by
            have h1 := HBL.out
            have h2 := HN.out
            have : 3 * n * k ≤ 192 * 1048576 := Nat.mul_le_mul (by omega) (by omega)
            omega)
          clear ho hb hF hq hok cc0 cc2 cc3
          obtain ⟨st, hst⟩ : ∃ st, stepsQ n o.k = st := ⟨_, rfl⟩
          have hst192 : st ≤ 192 := by have := HN.out; rw [← hst]; unfold stepsQ; split <;> omega
          have HST := Lib.hid hst
          have HL1 := Lib.hid (show LostSt W n br bk bw (List.replicate n 0) (pickQ n ops) bs Fs (.slice (some ⟨gp, 0, none⟩) bs.length cp) (.slice (some ⟨gk, 0, none⟩) bs.length ck) w2.heap.size (List.replicate n 0) _ (xs ++ tailTo n (pickQ n ops) k ++ List.replicate 0 (k : Int)) wr from by rw [List.replicate_zero, List.append_nil]; exact HL.out)
          by_cases hk3 : o.k = 3
          · have hkb : (o.k == 3) = true := by simpa using hk3
            have hmul : IntKind.i64.wrap (3 * (n : Int)) = (st : Int) := by rw [IntKind.wrap_i64, ← HST.out]; unfold stepsQ; rw [if_pos hk3]; omega
            clear hst hk3
            go_wp2
            go_loopw [12, 16] (fun vo i wr => ∃ j : Nat, j ≤ st ∧ i = .int .i64 j ∧ LostSt W n br bk bw (List.replicate n 0) (pickQ n ops) bs Fs (.slice (some ⟨gp, 0, none⟩) bs.length cp) (.slice (some ⟨gk, 0, none⟩) bs.length ck) w2.heap.size (List.replicate n 0) vo (xs ++ tailTo n (pickQ n ops) k ++ List.replicate j (k : Int)) wr) (fun _ i _ => st - (intOf i).toNat)
            case atStart => exact ⟨0, Nat.zero_le _, rfl, HL1.out⟩
            case round =>
              obtain ⟨j, hj, rfl, hL2⟩ := hrel
              have HL2 := Lib.hid hL2
              clear hL2 HL1
              by_cases hjl : j < st
              · obtain ⟨m, hm⟩ : ∃ m, (xs ++ tailTo n (pickQ n ops) k ++ List.replicate j (k : Int)).length = m := ⟨_, rfl⟩
                have HMM := Lib.hid hm
                have hmb : m ≤ 300000000 := by
                  rw [← hm, List.length_append, List.length_append, List.length_replicate]
                  have h1 := HTL.out
                  have h2 := HKB.out
                  omega
                have H3 : Hid (m + 1 ≤ maxLen) := Lib.hid (by unfold maxLen; omega)
                have H4 : Hid ((m + 1) * 8 ≤ 140737488355328) := Lib.hid (by omega)
                have H5 : Hid (W.heap.size ≤ (wr.alloc (.cells #[.int .i64 (k : Int)] 3)).heap.size) := Lib.hid (by have := HL2.out.many.st.low.size; simp; omega)
                clear hm hmb
                go_wp2_with (at_builtin; refine wpList_append_lies _ rfl _ _ 23 rfl W.heap.size 3 ii (.int .i64 0) 1 8 Try.underlying23 hii hi0 hi1 hi2 rfl (by decide) _ m _ rfl ((HL2.out.ordn HMM.out).alloc _) ⟨wr.heap.size, 0, none⟩ 1 1 [.int .i64 (k : Int)] rfl rfl (new_cells _ _ _) (one_i64 _) (by omega) H3.out H4.out H5.out _ rfl ?_; intro g c w5 hown5 hgr5 hat5 _; have HL5 := Lib.hid (HL2.out.app' HMM.out hown5 hgr5 hat5); clear hown5 hgr5 hat5)
                go_roundw
                case rel => exact ⟨j + 1, by omega, by go_num, by rw [List.replicate_succ', ← List.append_assoc]; exact HL5.out⟩
                case measure => simp [intOf]; omega
              · obtain rfl : j = st := by omega
                go_wp2
                go_roundw
                case rel => exact ⟨k + 1, by omega, by go_num, by simp only [tailTo]; rw [HSN.out, HST.out, ← List.append_assoc]; exact HL2.out⟩
                case measure => simp [intOf]; omega
          · have hkb : (o.k == 3) = false := by simpa using hk3
            have h3s : st = 3 := by rw [← HST.out]; unfold stepsQ; rw [if_neg hk3]
            subst h3s
            clear hst hk3
            go_wp2
            go_loopw [12, 16] (fun vo i wr => ∃ j : Nat, j ≤ 3 ∧ i = .int .i64 j ∧ LostSt W n br bk bw (List.replicate n 0) (pickQ n ops) bs Fs (.slice (some ⟨gp, 0, none⟩) bs.length cp) (.slice (some ⟨gk, 0, none⟩) bs.length ck) w2.heap.size (List.replicate n 0) vo (xs ++ tailTo n (pickQ n ops) k ++ List.replicate j (k : Int)) wr) (fun _ i _ => 3 - (intOf i).toNat)
            case atStart => exact ⟨0, Nat.zero_le _, rfl, HL1.out⟩
            case round =>
              obtain ⟨j, hj, rfl, hL2⟩ := hrel
              have HL2 := Lib.hid hL2
              clear hL2 HL1
              by_cases hjl : j < 3
              · obtain ⟨m, hm⟩ : ∃ m, (xs ++ tailTo n (pickQ n ops) k ++ List.replicate j (k : Int)).length = m := ⟨_, rfl⟩
                have HMM := Lib.hid hm
                have hmb : m ≤ 300000000 := by
                  rw [← hm, List.length_append, List.length_append, List.length_replicate]
                  have h1 := HTL.out
                  have h2 := HKB.out
                  omega
                have H3 : Hid (m + 1 ≤ maxLen) := Lib.hid (by unfold maxLen; omega)
                have H4 : Hid ((m + 1) * 8 ≤ 140737488355328) := Lib.hid (by omega)
                have H5 : Hid (W.heap.size ≤ (wr.alloc (.cells #[.int .i64 (k : Int)] 3)).heap.size) := Lib.hid (by have := HL2.out.many.st.low.size; simp; omega)
                clear hm hmb
                go_wp2_with (at_builtin; refine wpList_append_lies _ rfl _ _ 23 rfl W.heap.size 3 ii (.int .i64 0) 1 8 Try.underlying23 hii hi0 hi1 hi2 rfl (by decide) _ m _ rfl ((HL2.out.ordn HMM.out).alloc _) ⟨wr.heap.size, 0, none⟩ 1 1 [.int .i64 (k : Int)] rfl rfl (new_cells _ _ _) (one_i64 _) (by omega) H3.out H4.out H5.out _ rfl ?_; intro g c w5 hown5 hgr5 hat5 _; have HL5 := Lib.hid (HL2.out.app' HMM.out hown5 hgr5 hat5); clear hown5 hgr5 hat5)
                go_roundw
                case rel => exact ⟨j + 1, by omega, by go_num, by rw [List.replicate_succ', ← List.append_assoc]; exact HL5.out⟩
                case measure => simp [intOf]; omega
              · obtain rfl : j = 3 := by omega
                go_wp2
                go_roundw
                case rel => exact ⟨k + 1, by omega, by go_num, by simp only [tailTo]; rw [HSN.out, HST.out, ← List.append_assoc]; exact HL2.out⟩
                case measure => simp [intOf]; omega
        · obtain rfl : k = bs.length := by omega
          obtain ⟨ord, hord⟩ : ∃ ord, xs ++ tailTo n (pickQ n ops) bs.length = ord := ⟨_, rfl⟩
          rw [hord] at HL
          have HORD := Lib.hid hord
          have hordl : ord.length ≤ 300000000 := by
            rw [← hord, List.length_append]
            have h1 := tailTo_length n (pickQ n ops) bs.length H1.out
            have h2 := HBL.out
            have h3 := HN.out
            have : 3 * n * bs.length ≤ 192 * 1048576 := Nat.mul_le_mul (by omega) (by omega)
            omega
          obtain ⟨ao, co, hvo⟩ := own_form HL.out.ord
          subst hvo
          clear hord hk hlt
          go_wp2
          go_loopw [17] (fun i wr => ∃ (k : Nat) (ws : List Int) (os : List OpQ) (Fs : List (List Nat)), k ≤ ord.length ∧ i = .int .i64 k ∧ runL (List.replicate n 0, pickQ n ops) (ord.take k) = (ws, os) ∧ LostSt W n br bk bw ws os bs Fs (.slice ap bs.length cp) (.slice ak bs.length ck) w2.heap.size ws (.slice ao ord.length co) ord wr) (fun i _ => ord.length - (intOf i).toNat)
          case atStart => exact ⟨0, _, _, _, Nat.zero_le _, rfl, rfl, HL.out⟩
          case round =>
            obtain ⟨k, ws, os, Fs, hk, rfl, hrun, hL⟩ := hrel
            have HL := Lib.hid hL
            have HRUN := Lib.hid hrun
            clear hL hrun
            by_cases hlt : k < ord.length
            · obtain ⟨kk, hkk⟩ : ∃ kk, ord[k]? = some kk := ⟨ord[k], List.getElem?_eq_getElem hlt⟩
              obtain ⟨go, co', hvo, _, hgol⟩ := own_some HL.out.ord (by omega)
              cases hvo
              have cord := own_cell HL.out.ord (intsI_get hkk)
              have HNX : Hid (runL (List.replicate n 0, pickQ n ops) (ord.take (k + 1)) = stepL (ws, os) kk) := Lib.hid (by rw [runL_snoc _ hkk, HRUN.out])
              have HOL : Hid (os.length = bs.length) := Lib.hid HL.out.many.pends.len.symm
              have hlto : (k : Int) < (ord.length : Int) := by omega
              clear hkk
              by_cases hin : 0 ≤ kk ∧ kk < (bs.length : Int)
              · obtain ⟨q, rfl⟩ := Int.eq_ofNat_of_zero_le hin.1
                have hqb : q < bs.length := by omega
                obtain ⟨o, b, F, gp, cp', gk, ck', ho, hb, hF, hq, hok, hvp, hvk, cc0, cc1, cc2, cc3, hgp, hgk⟩ := HL.out.many.get hqb
                cases hvp
                cases hvk
                have HO := Lib.hid ho
                have HB := Lib.hid hb
                have HF := Lib.hid hF
                have HQ := Lib.hid hq
                have HOK := Lib.hid hok
                have HSA : Hid (runL (List.replicate n 0, pickQ n ops) (ord.take (k + 1)) = (stepQW ws o, os.set q (stepQ ws o))) := Lib.hid (by rw [HNX.out]; exact stepL_at HO.out)
                have hq4 : q * 4 ≤ 52776558132480 := by have := HBL.out; omega
                have hqi : (q : Int) < (bs.length : Int) := hin.2
                clear ho hb hF hq hok hin
                by_cases hph : o.ph = 2
                · have HD : Hid (decide (o.ph = 2) = true) := Lib.hid (decide_eq_true hph)
                  have HPH := Lib.hid hph
                  clear hph
                  go_wp2_with (go_at_call 16; refine (qdone_op HQ.out HOK.out HD.out).mono ?_; rintro e wx ⟨rfl, rfl⟩)
                  go_roundw
                  case rel => exact ⟨k + 1, ws, os, Fs, by omega, by go_num, by rw [HNX.out]; exact stepL_over HO.out HPH.out, HL.out⟩
                  case measure => simp [intOf]; omega
                · have HD : Hid (decide (o.ph = 2) = false) := Lib.hid (decide_eq_false hph)
                  have HPH := Lib.hid hph
                  clear hph
                  by_cases hk1 : o.k = 1
                  · obtain ⟨ri, hri, hrin⟩ : ∃ i : Nat, o.r = (i : Int) ∧ i < n := by
                      rcases HOK.out with ⟨_, h, _⟩ | ⟨e, _⟩ | ⟨e, _⟩
                      · exact h
                      · omega
                      · omega
                    have HV1 : Hid (U32 o.v) := Lib.hid (by
                      rcases HOK.out with ⟨_, _, h, _⟩ | ⟨e, _⟩ | ⟨e, _⟩
                      · exact h
                      · omega
                      · omega)
                    have HK1 := Lib.hid hk1
                    have HRI := Lib.hid hri
                    obtain ⟨x, hx⟩ : ∃ x, ws[ri]? = some x := ⟨_, List.getElem?_eq_getElem (by have := HL.out.many.st.len; omega)⟩
                    have HX1 := Lib.hid hx
                    have HPL2 := HQ.out.phase
                    clear hk1 hri hx
                    by_cases hp0 : o.ph = 0
                    · have hkb : (o.k != 1) = false := by simp [HK1.out]
                      obtain ⟨hd, hw, hl⟩ := didQ_put0 HK1.out hp0 HRI.out HX1.out
                      have HDD := Lib.hid hd
                      have HW := Lib.hid hw
                      have HLB := Lib.hid hl
                      clear hd hw hl
                      go_wp2_with (first
                        | (go_at_call 16; refine (qdone_op HQ.out HOK.out HD.out).mono ?_; rintro e wx ⟨rfl, rfl⟩)
                        | (go_at_call 14; refine (lost_step HL.out HN.out HO.out HB.out HF.out HQ.out HOK.out HDD.out HLB.out).mono ?_; rintro e w5 ⟨rfl, Fs', hL5⟩; have HL5 := Lib.hid hL5; obtain ⟨y0, y1, y2, ygk⟩ := hL5.kind' HO.out; clear hL5))
                      go_roundw
                      case rel => exact ⟨k + 1, _, _, Fs', by omega, by go_num, HSA.out, by rw [HW.out]; have h5 := HL5.out; rw [HW.out] at h5; exact h5.on ((Below.refl _ _).alloc (Nat.le_refl _) _)⟩
                      case measure => simp [intOf]; omega
                    by_cases hsx : x = o.saw
                    · subst hsx
                      have hkb : (o.k != 1) = false := by simp [HK1.out]
                      obtain ⟨hd, hw, hl, hph2, hxs, hcl, hkk⟩ := didQ_hit HK1.out (by have := HPH.out; omega) HRI.out HX1.out
                      have HDD := Lib.hid hd
                      have HW := Lib.hid hw
                      have HLB := Lib.hid hl
                      have HP2 := Lib.hid hph2
                      have HXS1 := Lib.hid hxs
                      have HK2 := Lib.hid hkk
                      have HNU : Hid (numW (afterW o.saw o.v) = (numW o.saw + 1) % 4294967296) := Lib.hid (numW_after HV1.out)
                      have HVA : Hid (valW (afterW o.saw o.v) = o.v) := Lib.hid (valW_after HV1.out)
                      have hrl : (ri : Int) < (n : Int) := by omega
                      have HO2 : Hid ((os.set q (stepQ ws o))[q]? = some (stepQ ws o)) := Lib.hid (List.getElem?_set_self (lt_of_get HO.out))
                      have HX2 : Hid ((ws.set ri (afterW o.saw o.v))[ri]? = some (afterW o.saw o.v)) := Lib.hid (List.getElem?_set_self (lt_of_get HX1.out))
                      clear hd hw hl hph2 hxs hcl hkk
                      go_upto_region 36 with (first
                        | (go_at_call 16; refine (qdone_op HQ.out HOK.out HD.out).mono ?_; rintro e wx ⟨rfl, rfl⟩)
                        | (go_at_call 14; refine (lost_step HL.out HN.out HO.out HB.out HF.out HQ.out HOK.out HDD.out HLB.out).mono ?_; rintro e w5 ⟨rfl, Fs', hL5⟩; rw [HW.out] at hL5; have HL5 := Lib.hid hL5; obtain ⟨y0, y1, y2, ygk⟩ := hL5.kind' HO.out; rw [HRI.out] at y1; obtain ⟨m0, m1, mlt, mf⟩ := hL5.wants HX1.out; clear hL5))
                      go_cut [] (fun wx => LostSt W n br bk bw (ws.set ri (afterW o.saw o.v)) (os.set q (stepQ ws o)) bs Fs' (.slice (some ⟨gp, 0, none⟩) bs.length cp) (.slice (some ⟨gk, 0, none⟩) bs.length ck) w2.heap.size (ws.set ri (afterW o.saw o.v)) (.slice (some ⟨go, 0, none⟩) ord.length co) ord wx)
                      case first =>
                        go_region
                        all_goals
                          go_wp2_with fail
                          go_meet
                          first | exact ((HL5.out.put HNU.out.symm HVA.out.symm).alloc _).drew | exact (HL5.out.put HNU.out.symm HVA.out.symm).alloc _
                      case rest =>
                        have HLC := Lib.hid hcut
                        clear hcut y0 y1 y2 m0 m1 mf
                        obtain ⟨z0, z1, zlt, zf⟩ := HLC.out.wants HX2.out
                        obtain ⟨p0, plt⟩ := HLC.out.ptr HB.out
                        have kfield : ∀ (w : World) (A : Option Addr) (m c : Nat) (b : Bool) (q : Int), (Instr.field 43 (.agg #[.slice A m c, .bool b, .int .i64 q]) 0).run Try.prog w = .ok (.slice A m c) w := fun _ _ _ _ _ _ => by kernel_rfl
                        go_wp2
                        go_region_held3 (fun w' => w'.cell? ⟨gp, q, none⟩ = some (.pointer (some ⟨b, 0, none⟩)) ∧ w'.cell? ⟨w2.heap.size, ri * 2, none⟩ = some (.int .u32 (numW (afterW o.saw o.v))) ∧ w'.cell? ⟨w2.heap.size, ri * 2 + 1, none⟩ = some (.int .u32 (valW (afterW o.saw o.v))))
                          (first | (with_reducible exact ⟨p0, z0, z1⟩) | (with_reducible exact ⟨u0, u1, u2⟩) | go_keep)
                          (first
                          | (go_at_call 18; (with_reducible refine (lost_answer HLC.out.drew HO2.out HB.out HP2.out HXS1.out HK2.out).mono ?_); rintro e w8 ⟨b8, c8, rfl, hb8, hr8, hbl8⟩; have HRA := Lib.hid hr8; have HB8 := Lib.hid hb8; have HLA := Lib.hid (HLC.out.drew.on hbl8); obtain ⟨u1, u2, ult, uf⟩ := HLA.out.wants HX2.out; obtain ⟨u0, u0lt⟩ := HLA.out.ptr HB.out; clear hb8 hr8 hbl8)
                          | (go_at_call 18; (with_reducible refine (lost_answer (HLC.out.alloc _).drew HO2.out HB.out HP2.out HXS1.out HK2.out).mono ?_); rintro e w8 ⟨b8, c8, rfl, hb8, hr8, hbl8⟩; have HRB := Lib.hid hr8; have HLB8 := Lib.hid ((HLC.out.alloc _).drew.on hbl8); have HNB := Lib.hid ((one_row wc (afterW o.saw o.v)).drew.below hbl8 (one_row wc (afterW o.saw o.v)).lt).liesR; obtain ⟨u1, u2, ult, uf⟩ := HLB8.out.wants HX2.out; obtain ⟨u0, u0lt⟩ := HLB8.out.ptr HB.out; clear hb8 hr8 hbl8)
                          | (go_at_call 19; (with_reducible refine (one_yes (HRA.out.over HB8.out _) (one_reg w8 (afterW o.saw o.v))).mono ?_); rintro e w9 ⟨rfl, m9, rfl⟩; have HL9 := Lib.hid ((HLA.out.alloc (.cells #[.int .u32 (numW (afterW o.saw o.v)), .int .u32 (valW (afterW o.saw o.v))] 60)).drewN m9))
                          | (go_at_call 19; (with_reducible refine (one_yes HRB.out HNB.out).mono ?_); rintro e w9 ⟨rfl, m9, rfl⟩; have HL9 := Lib.hid (HLB8.out.drewN m9)))
                        all_goals
                          go_wp2
                          go_roundw
                          case rel => exact ⟨k + 1, _, _, Fs', by omega, by go_num, HSA.out, by rw [HW.out]; first | exact HL9.out | exact HL9.out.drew⟩
                          case measure => simp [intOf]; omega
                    · have hkb : (o.k != 1) = false := by simp [HK1.out]
                      obtain ⟨hd, hw, hl⟩ := didQ_miss HK1.out (by have := HPH.out; omega) HRI.out HX1.out hsx
                      have HDD := Lib.hid hd
                      have HW := Lib.hid hw
                      have HLB := Lib.hid hl
                      clear hd hw hl
                      go_wp2_with (first
                        | (go_at_call 16; refine (qdone_op HQ.out HOK.out HD.out).mono ?_; rintro e wx ⟨rfl, rfl⟩)
                        | (go_at_call 14; refine (lost_step HL.out HN.out HO.out HB.out HF.out HQ.out HOK.out HDD.out HLB.out).mono ?_; rintro e w5 ⟨rfl, Fs', hL5⟩; have HL5 := Lib.hid hL5; obtain ⟨y0, y1, y2, ygk⟩ := hL5.kind' HO.out; clear hL5))
                      go_roundw
                      case rel => exact ⟨k + 1, _, _, Fs', by omega, by go_num, HSA.out, by rw [HW.out]; have h5 := HL5.out; rw [HW.out] at h5; exact h5.on ((Below.refl _ _).alloc (Nat.le_refl _) _)⟩
                      case measure => simp [intOf]; omega
                  · have hkb : (o.k != 1) = true := by simpa using hk1
                    obtain ⟨⟨dc, dx, hd⟩, hw⟩ := didQ_load (ws := ws) HOK.out hk1 HPH.out
                    have HDD := Lib.hid hd
                    have HW := Lib.hid hw
                    have hxx : (dx != dx) = false := by simp
                    clear hk1 hd hw
                    obtain ⟨lb, hlb⟩ : ∃ lb, decide ((stepQ ws o).ph = 2) = lb := ⟨_, rfl⟩
                    have HLB := Lib.hid hlb
                    clear hlb
                    go_wp2_with (first
                      | (go_at_call 16; refine (qdone_op HQ.out HOK.out HD.out).mono ?_; rintro e wx ⟨rfl, rfl⟩)
                      | (go_at_call 14; refine (lost_step HL.out HN.out HO.out HB.out HF.out HQ.out HOK.out HDD.out HLB.out).mono ?_; rintro e w5 ⟨rfl, Fs', hL5⟩; have HL5 := Lib.hid hL5; obtain ⟨y0, y1, y2, ygk⟩ := hL5.kind' HO.out; clear hL5))
                    go_roundw
                    case rel => exact ⟨k + 1, _, _, Fs', by omega, by go_num, HSA.out, by rw [HW.out]; have h5 := HL5.out; rw [HW.out] at h5; exact h5.on ((Below.refl _ _).alloc (Nat.le_refl _) _)⟩
                    case measure => simp [intOf]; omega
              · have HOUT : Hid (stepL (ws, os) kk = (ws, os)) := Lib.hid (stepL_out (by rw [HOL.out]; exact hin))
                rcases (show kk < 0 ∨ (0 ≤ kk ∧ (bs.length : Int) ≤ kk) by omega) with hneg | ⟨hpos, hge⟩
                · have hb1 : decide (kk < 0) = true := by simpa using hneg
                  clear hin hneg
                  go_wp2
                  go_roundw
                  case rel => exact ⟨k + 1, ws, os, Fs, by omega, by go_num, by rw [HNX.out]; exact HOUT.out, HL.out⟩
                  case measure => simp [intOf]; omega
                · have hb1 : decide (kk < 0) = false := by simp; omega
                  have hb2 : decide ((bs.length : Int) ≤ kk) = true := by simpa using hge
                  clear hin hpos hge
                  go_wp2
                  go_roundw
                  case rel => exact ⟨k + 1, ws, os, Fs, by omega, by go_num, by rw [HNX.out]; exact HOUT.out, HL.out⟩
                  case measure => simp [intOf]; omega
            · obtain rfl : k = ord.length := by omega
              have HEND : Hid (∀ (q : Nat) (o : OpQ), os[q]? = some o → o.k = 1 → o.ph = 2) := Lib.hid (fun q o ho hk1 => by
                have h1 := HRUN.out
                rw [List.take_length, ← HORD.out] at h1
                exact lost_ends HPL.out.symm h1 ho hk1)
              clear hlt hk
              go_wp2
              go_loopw [22] (fun i wr => ∃ j : Nat, j ≤ bs.length ∧ i = .int .i64 j ∧ LostSt W n br bk bw ws os bs Fs (.slice ap bs.length cp) (.slice ak bs.length ck) w2.heap.size ws (.slice ao ord.length co) ord wr) (fun i _ => bs.length - (intOf i).toNat)
              case atStart => exact ⟨0, Nat.zero_le _, rfl, HL.out⟩
              case round =>
                obtain ⟨j, hj, rfl, hL2⟩ := hrel
                have HL2 := Lib.hid hL2
                clear hL2
                by_cases hjl : j < bs.length
                · obtain ⟨o, b, F, gp, cp', gk, ck', ho, hb, hF, hq, hok, hvp, hvk, cc0, cc1, cc2, cc3, hgp, hgk⟩ := HL2.out.many.get hjl
                  cases hvp
                  cases hvk
                  have hj4 : j * 4 ≤ 52776558132480 := by have := HBL.out; omega
                  have hji : (j : Int) < (bs.length : Int) := by omega
                  have HQ := Lib.hid hq
                  have HOK := Lib.hid hok
                  by_cases hk1 : o.k = 1
                  · have hkb : (o.k == 1) = true := by simpa using hk1
                    have HD : Hid (decide (o.ph = 2) = true) := Lib.hid (decide_eq_true (HEND.out j o ho hk1))
                    clear ho hb hF hq hok hk1
                    go_wp2_with (go_at_call 16; refine (qdone_op HQ.out HOK.out HD.out).mono ?_; rintro e wx ⟨rfl, rfl⟩)
                    go_roundw
                    case rel => exact ⟨j + 1, by omega, by go_num, HL2.out⟩
                    case measure => simp [intOf]; omega
                  · have hkb : (o.k == 1) = false := by simpa using hk1
                    clear ho hb hF hq hok hk1
                    go_wp2
                    go_roundw
                    case rel => exact ⟨j + 1, by omega, by go_num, HL2.out⟩
                    case measure => simp [intOf]; omega
                · have HL6 : Hid (n ≤ 1000000) := Lib.hid (by omega)
                  go_wp2_with (first
                    | (go_at_call 20; refine (rall_m HL2.out.many.st.regs HL2.out.many.st.len).mono ?_; rintro e w8 ⟨b8, rfl, hb8, hr8, hbl8⟩; have HR8 := Lib.hid hr8; have HL8 := Lib.hid (HL2.out.on hbl8); clear hb8 hr8 hbl8)
                    | (go_at_call 19; refine (dregs_yes HR8.out.liesR HL8.out.want.liesR HL8.out.many.st.len HL6.out).mono ?_; rintro e w9 ⟨rfl, m9, rfl⟩; have HL9 := Lib.hid (HL8.out.on (Below.draws (Below.refl _ _) m9))))
                  go_ret
                  exact ⟨rfl, HL9.out.many.st.low⟩
end Go.Proofs.Ytiofbmgflhkjnaa
