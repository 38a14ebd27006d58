/- THE WALK of the law 'TokensFree'. -/
import Derived.Test.YtdhnekakofahnaaVb
namespace Go.Proofs.Ytdhnekakofahnaa
open Go Go.RowKit

/-- what a step leaves, the state and the word said outright -/
theorem tstep_is {w : World} {bt bk bw bp : Nat} {ev bu T T' : Int} {o o' : OpT} {did : Value} {last : Bool} (h : Buck w bt bk bw ev bu T) (hp : Row w bp 148 (opTL bt o)) (ho : OkT ev bu o) (hT : stepW T o = T') (ho' : stepO ev bu T o = o') (hd : didO T o = did) (hl : decide (o'.ph = 2) = last) :
    Calls Try.prog 53 #[.pointer (some ⟨bp, 0, none⟩)] w (StepsT w bt bk bw bp ev bu T' o' (.tuple #[did, .bool last])) := by
  subst hT
  subst ho'
  subst hd
  subst hl
  exact tstep_op h hp ho
theorem tdone_at {w : World} {bp bt : Nat} {o : OpT} {d : Bool} (h : Row w bp 148 (opTL bt o)) (h2 : o.ph ≤ 2) (hd : decide (o.ph = 2) = d) :
    Calls Try.prog 55 #[.pointer (some ⟨bp, 0, none⟩)] w fun e w' => e = .returned (.bool d) ∧ w = w' := by
  subst hd
  exact tdone_op h h2

/-- so many swaps have been done; how many had been when an operation looked -/
structure Swaps (bs : List Nat) (s : Nat) (T : Int) (os : List OpT) (ld : List Nat) : Prop where
  len : ld.length = bs.length
  inv : ∀ (q : Nat) (o : OpT) (x : Nat), os[q]? = some o → ld[q]? = some x → x ≤ s ∧ (o.ph = 1 → x = s → o.saw = T)
/-- the operations, and the slice of what they saw -/
structure FreeAt (W : World) (bt bk bw : Nat) (ev bu T : Int) (os : List OpT) (bs : List Nat) (vp : Value) (gl : Nat) (s : Nat) (ld : List Nat) (wr : World) : Prop where
  many : ManyT W bt bk bw ev bu T os bs vp wr
  row : Row wr gl 3 (ints ld)
  lo : W.heap.size ≤ gl
  sw : Swaps bs s T os ld
section
variable {W wr w1 : World} {bt bk bw gl : Nat} {ev bu T : Int} {os : List OpT} {bs ld : List Nat} {vp : Value} {s q : Nat}
theorem FreeAt.on (h : FreeAt W bt bk bw ev bu T os bs vp gl s ld wr) (hb : Below wr.heap.size wr w1) : FreeAt W bt bk bw ev bu T os bs vp gl s ld w1 := ⟨h.many.on hb, h.row.below hb h.row.lt, h.lo, h.sw⟩
theorem FreeAt.alloc (h : FreeAt W bt bk bw ev bu T os bs vp gl s ld wr) (o : Obj) : FreeAt W bt bk bw ev bu T os bs vp gl s ld (wr.alloc o) := h.on ((Below.refl _ _).alloc (Nat.le_refl _) o)
/-- behind a step -/
theorem FreeAt.step {b : Nat} {o o' : OpT} {T' : Int} {s' : Nat} {v : Value} {e : Ending} (h : FreeAt W bt bk bw ev bu T os bs vp gl s ld wr) (ho : os[q]? = some o) (hb : bs[q]? = some b) (hs : StepsT wr bt bk bw b ev bu T' o' v e w1) (hok : OkT ev bu o') (hsw : Swaps bs s' T' (os.set q o') ld) :
    FreeAt W bt bk bw ev bu T' (os.set q o') bs vp gl s' ld w1 := by
  obtain ⟨_, hB, hR, hP⟩ := hs
  have hrow := h.many.pends.row q o b ho hb
  exact ⟨h.many.step hb hB hR hP hok, h.row.part hP (by simp; exact ⟨h.row.ne h.many.one.buck.words.row (by decide), h.row.ne hrow (by decide)⟩), h.lo, hsw⟩
theorem Swaps.start {ops : List (Int × Int × Int)} {n : Nat} {bs : List Nat} {T : Int} (hn : n = bs.length) : Swaps bs 0 T (pickT ops) (List.replicate n 0) := by
  refine ⟨by simp [hn], fun q o x ho hx => ⟨by rw [List.getElem?_replicate] at hx; split at hx <;> simp at hx; omega, fun hp _ => ?_⟩⟩
  have hm := List.mem_of_getElem? ho
  unfold pickT at hm
  rw [List.mem_filterMap] at hm
  obtain ⟨op, _, h⟩ := hm
  split at h
  · cases h
    simp [newO] at hp
  · cases h
/-- what is written down -/
theorem FreeAt.write (h : FreeAt W bt bk bw ev bu T os bs vp gl s ld wr) (x : Nat) (hsw : Swaps bs s T os (ld.set q x)) : FreeAt W bt bk bw ev bu T os bs vp gl s (ld.set q x) (wr.setCell ⟨gl, q, none⟩ (.int .i64 (x : Int))) :=
  ⟨h.many.off h.row h.lo (Part.set (Part.refl _ _) (by simp) _) (by decide) (by decide) (by decide) (by decide) (by decide), by rw [← ints_set]; exact h.row.set q _, h.lo, hsw⟩
end
theorem looked_saw {ev bu T : Int} {o : OpT} (hph : o.ph = 0) (hp : (stepO ev bu T o).ph = 1) : (stepO ev bu T o).saw = T := by
  unfold stepO at hp ⊢
  rw [if_pos hph] at hp ⊢
  split at hp
  · rename_i hk
    rw [if_pos hk]
    split at hp
    · rename_i hg
      rw [if_pos hg]
    · simp at hp
  · simp at hp
/-- it looked -/
theorem Swaps.looked0 {bs ld : List Nat} {s q : Nat} {ev bu T : Int} {os : List OpT} {o : OpT} (h : Swaps bs s T os ld) (ho : os[q]? = some o) (hph : o.ph = 0) : Swaps bs s T (os.set q (stepO ev bu T o)) ld := by
  refine ⟨h.len, fun p x y hx hy => ?_⟩
  by_cases e : p = q
  · subst e
    rw [List.getElem?_set_self (lt_of_get ho)] at hx
    cases hx
    exact ⟨(h.inv p o y ho hy).1, fun hp _ => looked_saw hph hp⟩
  · rw [List.getElem?_set_ne (fun e' => e e'.symm)] at hx
    exact h.inv p x y hx hy
/-- and it is written down when -/
theorem Swaps.looked {bs ld : List Nat} {s q : Nat} {ev bu T : Int} {os : List OpT} {o : OpT} (h : Swaps bs s T os ld) (ho : os[q]? = some o) (hph : o.ph = 0) : Swaps bs s T (os.set q (stepO ev bu T o)) (ld.set q s) := by
  have h0 := h.looked0 (ev := ev) (bu := bu) ho hph
  refine ⟨by rw [List.length_set]; exact h.len, fun p x y hx hy => ?_⟩
  by_cases e : p = q
  · subst e
    have hl2 : p < ld.length := by have := lt_of_get hy; rwa [List.length_set] at this
    rw [List.getElem?_set_self hl2] at hy
    cases hy
    rw [List.getElem?_set_self (lt_of_get ho)] at hx
    cases hx
    exact ⟨Nat.le_refl _, fun hp _ => looked_saw hph hp⟩
  · rw [List.getElem?_set_ne (fun e' => e e'.symm)] at hy
    exact h0.inv p x y hx hy
theorem Swaps.hit {bs ld : List Nat} {s q : Nat} {T T' : Int} {os : List OpT} {o o' : OpT} (h : Swaps bs s T os ld) (ho : os[q]? = some o) : Swaps bs (s + 1) T' (os.set q o') ld := by
  refine ⟨h.len, fun p x y hx hy => ?_⟩
  have hle : y ≤ s := by
    by_cases e : p = q
    · subst e
      exact (h.inv p o y ho hy).1
    · rw [List.getElem?_set_ne (fun e' => e e'.symm)] at hx
      exact (h.inv p x y hx hy).1
  exact ⟨by omega, fun _ h => by omega⟩
theorem Swaps.miss {bs ld : List Nat} {s q : Nat} {T : Int} {os : List OpT} {o o' : OpT} (h : Swaps bs s T os ld) (ho : os[q]? = some o) (hph : o'.ph ≠ 1) : Swaps bs s T (os.set q o') ld := by
  refine ⟨h.len, fun p x y hx hy => ?_⟩
  by_cases e : p = q
  · subst e
    rw [List.getElem?_set_self (lt_of_get ho)] at hx
    cases hx
    exact ⟨(h.inv p o y ho hy).1, fun hp _ => absurd hp hph⟩
  · rw [List.getElem?_set_ne (fun e' => e e'.symm)] at hx
    exact h.inv p x y hx hy

set_option maxRecDepth 100000
theorem tfree_no {ev bu : Int} (h : fitsB ev bu = false) {A B : Option Addr} {len cap len' cap' : Nat} (W : World) :
    Calls Try.prog 12 #[.int .i64 ev, .int .i64 bu, .slice A len cap, .slice B len' cap'] W fun e w' => e = .returned (.bool true) ∧ Below W.heap.size W w' := by
  have H := Lib.hid h
  clear h
  go_enter Try.func12, Try.ntmps12
  go_wp2_with (first
    | (go_at_call 50; refine (tbegins_any _).mono ?_; rintro e w0 ⟨rfl, hb⟩; have HB0 := Lib.hid hb; clear hb)
    | (go_at_call 48; refine (tnew_no H.out).mono ?_; rintro e wx ⟨rfl, rfl⟩))
  go_ret
  exact ⟨rfl, HB0.out⟩
set_option maxHeartbeats 25600000 in
theorem tfree_yes {ev bu : Int} (h : fitsB ev bu = true) {A B : Option Addr} {cap cap' : Nat} {ops : List (Int × Int × Int)} {xs : List Int} (W : World) (hE : Ext3 .u8 .i64 .i64 W A ops) (hr : ops.length * 24 ≤ 140737488351232) (hX : Ext .i64 W B xs) (hr' : xs.length * 8 ≤ 140737488351232) :
    Calls Try.prog 12 #[.int .i64 ev, .int .i64 bu, .slice A ops.length cap, .slice B xs.length cap'] W fun e w' => e = .returned (.bool true) ∧ Below W.heap.size W w' := by
  obtain ⟨ip, hip, hp0, hp1, hp2⟩ := info_parts infoP
  obtain ⟨ii, hii, hi0, hi1, hi2⟩ := info_parts infoI
  have HE := Lib.hid hE
  have HX := Lib.hid hX
  have HF := Lib.hid h
  obtain ⟨fa, fb, fc, fd⟩ := fits_bounds h
  clear hE h hX
  go_enter Try.func12, Try.ntmps12
  go_wp2_with (first
    | (go_at_call 50; refine (tbegins_any _).mono ?_; rintro e w0 ⟨rfl, hb⟩; have HB0 := Lib.hid hb; clear hb)
    | (go_at_call 48; refine (tnew_yes _ HF.out).mono ?_; rintro e w1 ⟨bt, bk, bw, rfl, hc, hk, hw, hS, hb⟩; have HO1 := Lib.hid (OneT.start HB0.out hS hw hb); clear hc hk hw hS hb))
  go_loopw [11, 12] (fun vp u wr => ∃ j : Nat, j ≤ ops.length ∧ u = .int .i64 j ∧ ∃ bs, ManyT W bt bk bw ev bu 0 (pickT (ops.take j)) bs vp wr) (fun _ u _ => ops.length - (intOf u).toNat)
  case atStart => exact ⟨0, Nat.zero_le _, rfl, [], ManyT.nil HO1.out⟩
  case round =>
    obtain ⟨j, hj, rfl, bs, hM⟩ := hrel
    have HM := Lib.hid hM
    clear hM HO1 HB0
    by_cases hlt : j < ops.length
    · obtain ⟨⟨k, t, n⟩, hop⟩ : ∃ op, ops[j]? = some op := ⟨ops[j], List.getElem?_eq_getElem hlt⟩
      obtain ⟨b', o, rfl, hlt', q0, q1, q2⟩ := (HE.out.on HM.out.low) j _ hop
      dsimp only at q0 q1 q2
      have hlt2 : (j : Int) < (ops.length : Int) := by omega
      have HT := Lib.hid (pickT_take ops hop)
      have HPL := Lib.hid (pickT_length (ops.take j))
      clear hop
      cases hR : trightB k t n with
      | false =>
        have HR := Lib.hid hR
        clear hR
        go_wp2_with (go_at_call 51; refine (tstart_no HR.out).mono ?_; rintro e w5 ⟨rfl, hb5⟩; have HM5 := Lib.hid (HM.out.on hb5); clear hb5)
        go_roundw
        case rel => exact ⟨j + 1, by omega, by go_num, bs, by rw [HT.out]; simp only [HR.out]; rw [if_neg (by simp), List.append_nil]; exact HM5.out⟩
        case measure => simp [intOf]; omega
      | true =>
        have HR := Lib.hid hR
        have HRT := Lib.hid (rightT_iff.1 hR)
        clear hR
        have HLL : Hid (bs.length + 1 ≤ ops.length) := Lib.hid (by have h1 := HM.out.pends.len; have h2 := HPL.out; rw [List.length_take] at h2; omega)
        have H3 : Hid (bs.length + 1 ≤ maxLen) := Lib.hid (by have := HLL.out; unfold maxLen; omega)
        have H4 : Hid ((bs.length + 1) * 8 ≤ 140737488355328) := Lib.hid (by have := HLL.out; omega)
        go_wp2_with (first
          | (go_at_call 51; refine (tstart_op HRT.out).mono ?_; rintro e w5 ⟨bp, rfl, hn5, hr5, hb5⟩; have HB5 := Lib.hid hb5; have HN5 := Lib.hid hn5; have HR5 := Lib.hid hr5; have HM5 := Lib.hid (HM.out.on hb5); have H5 : Hid (W.heap.size ≤ (w5.alloc (.cells #[.pointer (some ⟨bp, 0, none⟩)] 88)).heap.size) := Lib.hid (by have := HM5.out.low.size; simp; omega); clear hb5 hn5 hr5)
          | (at_builtin; refine wpList_append_own _ rfl _ _ 87 rfl W.heap.size 88 ip (.pointer none) 1 8 Try.underlying87 hip hp0 hp1 hp2 rfl (by decide) _ _ _ rfl (HM5.out.ps.alloc _) ⟨w5.heap.size, 0, none⟩ 1 1 [.pointer (some ⟨bp, 0, none⟩)] rfl rfl (new_cells _ _ _) (one_ptr _) H3.out H4.out H5.out ?_; intro vp' w6 hown6 hgr6 _; have HO6 := Lib.hid hown6; have HG6 := Lib.hid hgr6; clear hown6 hgr6))
        go_roundw
        case rel => exact ⟨j + 1, by omega, by go_num, bs ++ [bp], by rw [HT.out]; simp only [HR.out, if_true]; exact HM.out.grow HB5.out HR5.out HN5.out (OkT.new HRT.out) HO6.out HG6.out⟩
        case measure => simp [intOf]; omega
    · obtain rfl : j = ops.length := by omega
      have HLL : Hid (bs.length ≤ ops.length) := Lib.hid (by have h1 := HM.out.pends.len; have h2 := pickT_length (ops.take ops.length); rw [List.length_take] at h2; omega)
      have hbl : ii.bytes * bs.length ≤ 281474976710656 := by rw [hi2]; have := HLL.out; omega
      have hml : bs.length ≤ maxLen := by have := HLL.out; unfold maxLen; omega
      have hnl : bs.length ≤ 5864062014634 := by have := HLL.out; omega
      obtain ⟨pa, pc, rfl⟩ := own_form HM.out.ps
      go_wp2_with (at_make; refine wpList_make_full _ rfl _ _ 40 rfl wr.heap.size 3 ii (.int .i64 0) 1 Try.underlying40 hii hi0 hi1 .i64 .i64 bs.length bs.length bs.length rfl rfl rfl rfl hbl hml (Nat.le_refl _) ?_; intro w1 hown hgr; have hrw := row_of_full hown; rw [ints_made] at hrw; have HF1 : Hid (FreeAt W bt bk bw ev bu 0 (pickT (ops.take ops.length)) bs (.slice pa bs.length pc) wr.heap.size 0 (List.replicate bs.length 0) w1) := Lib.hid ⟨HM.out.on ((Below.refl _ _).grown hgr (Nat.le_refl _) (by simp)), hrw, HM.out.low.size, Swaps.start rfl⟩; clear hown hgr hrw)
      obtain ⟨gl, hgl⟩ : ∃ gl, wr.heap.size = gl := ⟨_, rfl⟩
      rw [hgl] at HF1 ⊢
      clear hgl
      go_loopw [16, 17] (fun sv u wr => ∃ j : Nat, j ≤ xs.length ∧ u = .int .i64 j ∧ ∃ s : Nat, s ≤ j ∧ sv = .int .i64 s ∧ ∃ T os ld, FreeAt W bt bk bw ev bu T os bs (.slice pa bs.length pc) gl s ld wr) (fun _ u _ => xs.length - (intOf u).toNat)
      case atStart => exact ⟨0, Nat.zero_le _, rfl, 0, Nat.zero_le _, rfl, _, _, _, HF1.out⟩
      case round =>
        obtain ⟨j, hj, rfl, s, hsj, rfl, T, os, ld, hA⟩ := hrel
        have HA := Lib.hid hA
        have hT0 := hA.many.one.buck.lo
        have hT1 := hA.many.one.buck.hi
        clear hA HF1
        by_cases hlt : j < xs.length
        · obtain ⟨k, hk⟩ : ∃ k, xs[j]? = some k := ⟨xs[j], List.getElem?_eq_getElem hlt⟩
          obtain ⟨b', o', rfl, hlt', q0⟩ := (HX.out.on HA.out.many.low) j _ hk
          have hlt2 : (j : Int) < (xs.length : Int) := by omega
          have hjm : j ≤ 17592186044160 := by omega
          clear hk
          by_cases hk0 : k < 0
          · go_wp2
            go_roundw
            case rel => exact ⟨j + 1, by omega, by go_num, s, by omega, rfl, _, _, _, HA.out⟩
            case measure => simp [intOf]; omega
          by_cases hkn : (bs.length : Int) ≤ k
          · go_wp2
            go_roundw
            case rel => exact ⟨j + 1, by omega, by go_num, s, by omega, rfl, _, _, _, HA.out⟩
            case measure => simp [intOf]; omega
          obtain ⟨q, rfl⟩ := Int.eq_ofNat_of_zero_le (show 0 ≤ k by omega)
          have hqn : q < bs.length := by omega
          obtain ⟨o, b, g, c, ho, hb, hv, hc, hR, hok⟩ := HA.out.many.get hqn
          cases hv
          have hq2 : (q : Int) < (bs.length : Int) := by omega
          have HOo := Lib.hid ho
          have HBb := Lib.hid hb
          have HRr := Lib.hid hR
          have HOK := Lib.hid hok
          have hph := hok.ph
          clear ho hb hR hok
          by_cases h2 : o.ph = 2
          · have HD : Hid (decide (o.ph = 2) = true) := Lib.hid (by simp [h2])
            clear h2 hph
            go_wp2_with (go_at_call 55; refine (tdone_at HRr.out HOK.out.ph HD.out).mono ?_; rintro e wx ⟨rfl, rfl⟩)
            go_roundw
            case rel => exact ⟨j + 1, by omega, by go_num, s, by omega, rfl, _, _, _, HA.out⟩
            case measure => simp [intOf]; omega
          have HD : Hid (decide (o.ph = 2) = false) := Lib.hid (by simp [h2])
          obtain ⟨x, hx⟩ : ∃ x, ld[q]? = some x := ⟨_, List.getElem?_eq_getElem (by rw [HA.out.sw.len]; exact hqn)⟩
          have l0 := (HA.out.row.cell q).trans (ints_get hx)
          have HXx := Lib.hid hx
          clear hx
          by_cases h0 : o.ph = 0
          · have HDI : Hid (didO T o = .agg #[.int .u8 1, .int .i64 0, .int .u64 T, .int .u64 T, .bool true]) := Lib.hid (by simp [didO, h0])
            have HTW : Hid (stepW T o = T) := Lib.hid (by simp [stepW, h0])
            have H0 := Lib.hid h0
            obtain ⟨last, hlast⟩ : ∃ last, decide ((stepO ev bu T o).ph = 2) = last := ⟨_, rfl⟩
            have HL := Lib.hid hlast
            clear h0 h2 hph hlast
            go_wp2_with (first
              | (go_at_call 55; refine (tdone_at HRr.out HOK.out.ph HD.out).mono ?_; rintro e wx ⟨rfl, rfl⟩)
              | (go_at_call 57; (with_reducible refine (tword_any HA.out.many.one.buck).mono ?_); rintro e wx ⟨rfl, rfl⟩)
              | (go_at_call 53; refine (tstep_is HA.out.many.one.buck HRr.out HOK.out HTW.out rfl HDI.out HL.out).mono ?_; intro e w2 hs; have hcp := hs; obtain ⟨he, _⟩ := hs; subst he; have HW2 := Lib.hid (HA.out.step HOo.out HBb.out hcp HOK.out.step (HA.out.sw.looked0 HOo.out H0.out)); have k0 := (HW2.out.row.cell q).trans (ints_get HXx.out); have kf := HW2.out.row.free q; have klt := HW2.out.row.lt; clear hcp)
              | (go_at_call 57; refine (tword_any ((HW2.out.write (q := q) s (HA.out.sw.looked HOo.out H0.out)).alloc _).many.one.buck).mono ?_; rintro e wx ⟨rfl, rfl⟩))
            go_roundw
            case rel => exact ⟨j + 1, by omega, by go_num, s, by omega, rfl, _, _, _, (HW2.out.write (q := q) s (HA.out.sw.looked HOo.out H0.out)).alloc _⟩
            case measure => simp [intOf]; omega
          · have h1 : o.ph = 1 := by omega
            obtain ⟨f1, f2⟩ := HOK.out.fit h1
            have hk1 := HOK.out.take h1
            have hn1 : 1 ≤ o.n := by have := HOK.out.right; unfold RightT at this; omega
            have hne : ev ≤ o.n * ev := by
              have := Int.mul_le_mul_of_nonneg_right hn1 (show 0 ≤ ev by omega)
              omega
            by_cases e : T = o.saw
            · have hput : T < o.put := by omega
              have HDI : Hid (didO T o = .agg #[.int .u8 5, .int .i64 0, .int .u64 T, .int .u64 o.put, .bool true]) := Lib.hid (by simp [didO, h1, e])
              have HTW : Hid (stepW T o = o.put) := Lib.hid (by simp [stepW, h1, e])
              have HL : Hid (decide ((stepO ev bu T o).ph = 2) = true) := Lib.hid (by simp [stepO, h1, e])
              obtain ⟨pt, hpt⟩ : ∃ pt, o.put = pt := ⟨_, rfl⟩
              rw [hpt] at hput HDI HTW
              clear h0 h1 h2 hph f1 f2 hk1 hn1 hne e hpt
              go_wp2_with (first
                | (go_at_call 55; refine (tdone_at HRr.out HOK.out.ph HD.out).mono ?_; rintro e wx ⟨rfl, rfl⟩)
                | (go_at_call 57; (with_reducible refine (tword_any HA.out.many.one.buck).mono ?_); rintro e wx ⟨rfl, rfl⟩)
                | (go_at_call 53; refine (tstep_is HA.out.many.one.buck HRr.out HOK.out HTW.out rfl HDI.out HL.out).mono ?_; intro e w2 hs; have hcp := hs; obtain ⟨he, _⟩ := hs; subst he; have HW2 := Lib.hid (HA.out.step HOo.out HBb.out hcp HOK.out.step (HA.out.sw.hit HOo.out)); clear hcp)
                | (go_at_call 57; refine (tword_any (HW2.out.alloc _).many.one.buck).mono ?_; rintro e wx ⟨rfl, rfl⟩))
              go_roundw
              case rel => exact ⟨j + 1, by omega, by go_num, s + 1, by omega, by go_num, _, _, _, HW2.out.alloc _⟩
              case measure => simp [intOf]; omega
            · have hxs : ¬ x = s := fun hh => e ((HA.out.sw.inv q o x HOo.out HXx.out).2 h1 hh).symm
              have hxs2 : ((s : Int) == (x : Int)) = false := by simp; omega
              have hxs3 : ¬ s = x := fun hh => hxs hh.symm
              have HDI : Hid (didO T o = .agg #[.int .u8 5, .int .i64 0, .int .u64 T, .int .u64 T, .bool false]) := Lib.hid (by simp [didO, h1, e])
              have HTW : Hid (stepW T o = T) := Lib.hid (by simp [stepW, e])
              have HL : Hid (decide ((stepO ev bu T o).ph = 2) = false) := Lib.hid (by simp [stepO, h1, e])
              have HN : Hid ((stepO ev bu T o).ph ≠ 1) := Lib.hid (by simp [stepO, h1, e])
              clear h0 h1 h2 hph f1 f2 hk1 hn1 hne e
              go_wp2_with (first
                | (go_at_call 55; refine (tdone_at HRr.out HOK.out.ph HD.out).mono ?_; rintro e wx ⟨rfl, rfl⟩)
                | (go_at_call 57; (with_reducible refine (tword_any HA.out.many.one.buck).mono ?_); rintro e wx ⟨rfl, rfl⟩)
                | (go_at_call 53; refine (tstep_is HA.out.many.one.buck HRr.out HOK.out HTW.out rfl HDI.out HL.out).mono ?_; intro e w2 hs; have hcp := hs; obtain ⟨he, _⟩ := hs; subst he; have HW2 := Lib.hid (HA.out.step HOo.out HBb.out hcp HOK.out.step (HA.out.sw.miss HOo.out HN.out)); have k0 := (HW2.out.row.cell q).trans (ints_get HXx.out); have klt := HW2.out.row.lt; clear hcp)
                | (go_at_call 57; refine (tword_any (HW2.out.alloc _).many.one.buck).mono ?_; rintro e wx ⟨rfl, rfl⟩))
              go_roundw
              case rel => exact ⟨j + 1, by omega, by go_num, s, by omega, rfl, _, _, _, HW2.out.alloc _⟩
              case measure => simp [intOf]; omega
        · obtain rfl : j = xs.length := by omega
          go_wp2
          go_ret
          exact ⟨rfl, HA.out.many.low⟩
end Go.Proofs.Ytdhnekakofahnaa
