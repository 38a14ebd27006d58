/- THE WALK of the law 'ShardsBetween'. -/
import Derived.Test.YtigknlipeipbgaaSt
namespace Go.Proofs.Ytigknlipeipbgaa
open Go Go.RowKit

theorem allOf_next {os : List OpS} {j : Nat} {o : OpS} (h : os[j]? = some o) : allOf (os.take (j + 1)) = allOf (os.take j) + o.y := by
  rw [List.take_add_one, h]
  simp only [allOf, Option.toList, List.map_append, sumI_append, List.map_cons, List.map_nil, sumI_cons]
  simp [sumI]
section
variable {ws ls fs : List Int} {os : List OpS} {gs : List Bool} {gr : Int}
/-- a step keeps what holds -/
theorem bet_step {q : Nat} {o : OpS} {x : Int} (h : BetI ws os ls fs gs gr) (ho : os[q]? = some o) (_hr : RightN o.k o.i o.y) (hok : OkS ws.length o) (ht : o.t < many ws.length o.k) (hx : ws[cellOf ws.length o.k o.i o.t]? = some x) (hl : q < ls.length) (hf : q < fs.length) (hg : q < gs.length) :
    BetI (ws.set (cellOf ws.length o.k o.i o.t) (putOf o.k o.y x)) (os.set q (nextS ws o x)) (if o.t = 0 then ls.set q (sumI ws) else ls) (if o.t = 0 then fs.set q gr else fs) (if o.t = 0 then gs.set q true else gs) gr
    ∧ sumI (ws.set (cellOf ws.length o.k o.i o.t) (putOf o.k o.y x)) = sumI ws + (if o.k = 1 then o.y else 0) ∧ sumI ws + (if o.k = 1 then o.y else 0) < 18446744073709551616 ∧ 0 ≤ sumI ws + (if o.k = 1 then o.y else 0) := by
  obtain ⟨s0, s1⟩ := h.sum_lt
  have k4 := (h.yy o (List.mem_of_getElem? ho)).2
  have hy0 := (h.yy o (List.mem_of_getElem? ho)).1
  have hoff : ∀ {α : Type} (l : List α) (v : α) (p : Nat), p ≠ q → (if o.t = 0 then l.set q v else l)[p]? = l[p]? := fun l v p hp => by
    split
    · exact List.getElem?_set_ne (fun e => hp e.symm)
    · rfl
  obtain ⟨hgq, l, f, hl1, hf1, hinv⟩ := h.ops q o ho
  have hgq' : (if o.t = 0 then gs.set q true else gs)[q]? = some (decide (0 < (nextS ws o x).t)) := by
    have e : decide (0 < (nextS ws o x).t) = true := by simp [nextS]
    rw [e]
    split
    · exact List.getElem?_set_self hg
    · rw [hgq]
      have : 0 < o.t := by omega
      simp [this]
  have hsm := sumI_set ws (cellOf ws.length o.k o.i o.t) (putOf o.k o.y x) x hx
  by_cases k1 : o.k = 1
  · have ht0 : o.t = 0 := by rw [k1] at ht; simp [many] at ht; exact ht
    obtain ⟨a1, a2, a3⟩ := h.add ho k1 ht0 hx
    have hp : putOf o.k o.y x = x + o.y := by
      simp only [putOf, k1, if_true]
      rw [IntKind.wrap_u64]
      omega
    rw [hp] at hsm ⊢
    refine ⟨h.next ho hx (by omega) rfl rfl ?_ (hoff ls _) (hoff fs _) (hoff gs _) hgq' ⟨sumI ws, gr, ?_, ?_, fun _ h3 => ?_⟩, by rw [hsm, if_pos k1]; omega, by rw [if_pos k1]; omega, by rw [if_pos k1]; omega⟩
    · simp [contrib, nextS, k1, ht0]; omega
    · rw [if_pos ht0]; exact List.getElem?_set_self hl
    · rw [if_pos ht0]; exact List.getElem?_set_self hf
    · have : o.k = 3 := h3
      omega
  · have hp : putOf o.k o.y x = x := by simp [putOf, k1, k4]
    rw [hp] at hsm ⊢
    have hws := set_same hx
    refine ⟨?_, by rw [hsm, if_neg k1]; omega, by rw [if_neg k1]; omega, by rw [if_neg k1]; omega⟩
    have hcon : x - x = contrib (nextS ws o x) - contrib o := by simp [contrib, nextS, k1, k4]
    by_cases k3 : o.k = 3
    · have hcell : cellOf ws.length o.k o.i o.t = o.t := by simp [cellOf, k3]
      rw [hcell] at hx hws ⊢
      have hx0 := h.nn x (List.mem_of_getElem? hx)
      have htk := sum_take hx
      have hsp := sum_split ws o.t
      have hsp1 := sum_split ws (o.t + 1)
      have hd1 := nn_drop h.nn (o.t + 1)
      by_cases ht0 : o.t = 0
      · have hs0 : o.s = 0 := hok.2 ht0
        have e0 : sumI (ws.take 0) = 0 := by simp [sumI]
        rw [ht0] at htk hsp hsp1 hd1
        have hsx : (nextS ws o x).s = x := by
          simp only [nextS, sumOf, k3, hs0]
          simp
          rw [IntKind.wrap_u64]
          omega
        refine h.next ho hx (Int.le_refl _) rfl rfl hcon (hoff ls _) (hoff fs _) (hoff gs _) hgq' ⟨sumI ws, gr, by rw [if_pos ht0]; exact List.getElem?_set_self hl, by rw [if_pos ht0]; exact List.getElem?_set_self hf, fun _ _ => ?_⟩
        rw [hws, hsx]
        have e1 : (nextS ws o x).t = 0 + 1 := by simp [nextS, ht0]
        rw [e1]
        have := h.gr0
        omega
      · obtain ⟨c1, c2, c3, c4, c5⟩ := hinv (by omega) k3
        have hsx : (nextS ws o x).s = o.s + x := by
          simp only [nextS, sumOf, k3]
          simp
          rw [IntKind.wrap_u64]
          omega
        refine h.next ho hx (Int.le_refl _) rfl rfl hcon (hoff ls _) (hoff fs _) (hoff gs _) hgq' ⟨l, f, by rw [if_neg ht0]; exact hl1, by rw [if_neg ht0]; exact hf1, fun _ _ => ?_⟩
        rw [hws, hsx]
        have e1 : (nextS ws o x).t = o.t + 1 := rfl
        rw [e1]
        omega
    · refine h.next ho hx (Int.le_refl _) rfl rfl hcon (hoff ls _) (hoff fs _) (hoff gs _) hgq' ?_
      by_cases ht0 : o.t = 0
      · exact ⟨sumI ws, gr, by rw [if_pos ht0]; exact List.getElem?_set_self hl, by rw [if_pos ht0]; exact List.getElem?_set_self hf, fun _ h3 => absurd h3 k3⟩
      · exact ⟨l, f, by rw [if_neg ht0]; exact hl1, by rw [if_neg ht0]; exact hf1, fun _ h3 => absurd h3 k3⟩
/-- of a sum that has ended -/
theorem bet_last {q : Nat} {o : OpS} (h : BetI ws os ls fs gs gr) (ho : os[q]? = some o) (k3 : o.k = 3) (ht : ws.length ≤ o.t) (h0 : 0 < o.t) : ∃ l f, ls[q]? = some l ∧ fs[q]? = some f ∧ l ≤ o.s ∧ o.s ≤ sumI ws ∧ f ≤ o.s ∧ 0 ≤ o.s := by
  obtain ⟨_, l, f, hl1, hf1, hinv⟩ := h.ops q o ho
  obtain ⟨c1, c2, c3, c4, c5⟩ := hinv h0 k3
  have e1 : sumI (ws.drop o.t) = 0 := by rw [List.drop_eq_nil_of_le ht]; simp [sumI]
  have e2 : sumI (ws.take o.t) = sumI ws := by rw [List.take_of_length_le ht]
  exact ⟨l, f, hl1, hf1, by omega, by omega, by omega, c4⟩
end
theorem bet_start {n : Nat} {ops : List (Int × Int × Int)} {k : Nat} (hk : (pick ops).length = k) (hU : ∀ op, op ∈ ops → U64 op.2.2) (hcap : allOf (pick ops) < 18446744073709551616) (hno : ∀ (i : Nat) (o : OpS), (pick ops)[i]? = some o → o.k ≠ 4) : BetI (List.replicate n 0) (pick ops) (List.replicate k 0) (List.replicate k 0) (List.replicate k false) 0 := by
  have h1' : ∀ m : Nat, sumI (List.replicate m 0) = 0 := fun m => by
    induction m with
    | zero => rfl
    | succ m ih => rw [List.replicate_succ, sumI_cons, ih]; rfl
  have h1 := h1' n
  have hp : ∀ o, o ∈ pick ops → o.t = 0 ∧ 0 ≤ o.y := fun o ho => by
    unfold pick at ho
    rw [List.mem_filterMap] at ho
    obtain ⟨op, hm, h'⟩ := ho
    split at h'
    · cases h'; exact ⟨rfl, (hU op hm).1⟩
    · cases h'
  have h2 : totalOf (pick ops) = 0 := by
    have : ∀ l : List OpS, (∀ o, o ∈ l → o.t = 0 ∧ o.k ≠ 4) → totalOf l = 0 := fun l => by
      induction l with
      | nil => intro _; rfl
      | cons o l ih =>
        intro ho
        have h := ho o (by simp)
        have e : totalOf (o :: l) = contrib o + totalOf l := rfl
        rw [e, ih (fun x hx => ho x (by simp [hx]))]
        unfold contrib
        simp [h.1, h.2]
    refine this _ fun o ho => ?_
    obtain ⟨i, hi⟩ := List.getElem?_of_mem ho
    exact ⟨(hp o ho).1, hno i o hi⟩
  refine ⟨by rw [h1, h2], hcap, fun x hx => by rw [List.eq_of_mem_replicate hx]; exact Int.le_refl _, fun o ho => ?_, ⟨Int.le_refl _, by rw [h1]; exact Int.le_refl _⟩, fun q o ho => ?_⟩
  · obtain ⟨i, hi⟩ := List.getElem?_of_mem ho
    exact ⟨(hp o ho).2, hno i o hi⟩
  · have hq : q < k := by rw [← hk]; exact lt_of_get ho
    have h0 := (hp o (List.mem_of_getElem? ho)).1
    refine ⟨by rw [h0]; simp [hq], 0, 0, by simp [hq], by simp [hq], fun h => by omega⟩
set_option maxRecDepth 100000
theorem between_no {n : Int} (h : n < 1 ∨ 64 < n) {A B : Option Addr} {len cap len' cap' : Nat} (W : World) :
    Calls Try.prog 10 #[.int .i64 n, .slice A len cap, .slice B len' cap'] W fun e w' => e = .returned (.bool true) ∧ Below W.heap.size W w' := by
  have H := Lib.hid h
  rcases h with h | h
  · go_enter Try.func10, Try.ntmps10
    go_wp2_with (first
      | (go_at_call 36; refine (begins_any _).mono ?_; rintro e w1 ⟨rfl, hb⟩; have HB := Lib.hid hb; clear hb)
      | (go_at_call 34; refine (begun_no H.out).mono ?_; rintro e w1 ⟨rfl, rfl⟩))
    go_ret
    exact ⟨rfl, HB.out⟩
  · have h' : decide (n < 1) = false := by simp; omega
    have h'' : decide (64 < n) = true := by simp; omega
    go_enter Try.func10, Try.ntmps10
    go_wp2_with (first
      | (go_at_call 36; refine (begins_any _).mono ?_; rintro e w1 ⟨rfl, hb⟩; have HB := Lib.hid hb; clear hb)
      | (go_at_call 34; refine (begun_no H.out).mono ?_; rintro e w1 ⟨rfl, rfl⟩))
    go_ret
    exact ⟨rfl, HB.out⟩
set_option maxHeartbeats 25600000 in
theorem between_yes {n : Nat} (h1 : 1 ≤ n) (h2 : n ≤ 64) {A B : Option Addr} {cap cap' : Nat} {ops : List (Int × Int × Int)} {xs : List Int} (W : World) (hE : ExtOps W A ops) (hr : ops.length * 24 ≤ 140737488351232) (hU : ∀ op, op ∈ ops → U64 op.2.2) (hX : Ext .i64 W B xs) (hr' : xs.length * 8 ≤ 140737488351232) :
    Calls Try.prog 10 #[.int .i64 (n : Int), .slice A ops.length cap, .slice B xs.length cap'] W fun e w' => e = .returned (.bool true) ∧ Below W.heap.size W w' := by
  obtain ⟨iU, hiU, hU0, hU1, hU2⟩ := info_parts infoU64
  obtain ⟨iB, hiB, hB0, hB1, hB2⟩ := info_parts infoBo
  have H1 := Lib.hid h1
  have H2 := Lib.hid h2
  have HE := Lib.hid hE
  have HX := Lib.hid hX
  have HUU := Lib.hid hU
  clear h1 h2 hE hX hU
  go_enter Try.func10, Try.ntmps10
  go_wp2_with (first
    | (go_at_call 36; refine (begins_any _).mono ?_; rintro e w0 ⟨rfl, hb⟩; have HB0 := Lib.hid hb; clear hb)
    | (go_at_call 34; refine (begun_yes _ H1.out H2.out).mono ?_; rintro e w1 ⟨bc, bk, bw, rfl, hc, hk, hw, hS, hb⟩; have HW : Hid (W.heap.size ≤ bw) := Lib.hid (Nat.le_trans HB0.out.size hw); have HS := Lib.hid hS; have HB : Hid (Below W.heap.size W w1) := Lib.hid (HB0.out.trans (hb.mono HB0.out.size)); clear hc hk hw hS hb)
    | (go_at_call 52; refine (started_any HS.out (HE.out.on HB.out) hr).mono ?_; rintro e w2 ⟨vp, vk, rfl, bs, hSt⟩; have HLL : Hid (bs.length ≤ ops.length) := Lib.hid (by have := hSt.pends.len; have := pick_length ops; omega); have HG2 := Lib.hid (Going.start HB.out HW.out hSt); have hpf := own_form hSt.ps; obtain ⟨pa, pc, hvp⟩ := hpf; subst hvp; have hkf := own_form hSt.ks; obtain ⟨ka, kc, hvk⟩ := hkf; subst hvk; clear hSt))
  have hbl : bs.length ≤ 5864062014634 := by have := HLL.out; omega
  have hxl : xs.length ≤ 17592186044160 := by omega
  have HPL : Hid ((pick ops).length = bs.length) := Lib.hid HG2.out.pends.len.symm
  go_loopw [11, 12] (fun a u wr => ∃ j : Nat, j ≤ bs.length ∧ u = .int .i64 j ∧ a = .int .u64 (allOf ((pick ops).take j)) ∧ allOf ((pick ops).take j) < 18446744073709551616 ∧ (∀ (i : Nat) (o : OpS), i < j → (pick ops)[i]? = some o → o.k ≠ 4) ∧ Going W bc bk bw (List.replicate n 0) (pick ops) bs (.slice pa bs.length pc) (.slice ka bs.length kc) wr) (fun _ u _ => bs.length - (intOf u).toNat)
  case atStart => exact ⟨0, Nat.zero_le _, rfl, by simp [allOf, sumI], by simp [allOf, sumI], fun i o h => by omega, HG2.out⟩
  case round =>
    obtain ⟨j, hj, rfl, rfl, hcap, hno, hG⟩ := hrel
    have HG := Lib.hid hG
    have HNO := Lib.hid hno
    clear hG hno HG2
    by_cases hlt : j < bs.length
    · have hlt2 : (j : Int) < (bs.length : Int) := by omega
      obtain ⟨o, b, g, c, g', c', ho, hb, hv, hv', hc, hc0, hc2, hR, hrn, hok⟩ := HG.out.get hlt
      cases hv
      cases hv'
      have HNX := Lib.hid (allOf_next ho)
      have HOo := Lib.hid ho
      have hy : 0 ≤ o.y ∧ o.y < 18446744073709551616 := by
        have hm := List.mem_of_getElem? ho
        unfold pick at hm
        rw [List.mem_filterMap] at hm
        obtain ⟨op, hm, h'⟩ := hm
        split at h'
        · cases h'; exact HUU.out op hm
        · cases h'
      have ha0 : 0 ≤ allOf ((pick ops).take j) := by
        refine sum_nn fun y hy' => ?_
        obtain ⟨z, hz, rfl⟩ := List.mem_map.1 hy'
        have hm := List.mem_of_mem_take hz
        unfold pick at hm
        rw [List.mem_filterMap] at hm
        obtain ⟨op, hm, h'⟩ := hm
        split at h'
        · cases h'; exact (HUU.out op hm).1
        · cases h'
      obtain ⟨av, hav⟩ : ∃ av, allOf ((pick ops).take j) = av := ⟨_, rfl⟩
      rw [hav] at HNX hcap ha0 ⊢
      have hj3 : j * 3 ≤ 52776558132480 := by omega
      clear hb hR hrn hok hav ho
      by_cases k4 : o.k = 4
      · have e4 : (o.k == 4) = true := by simp [k4]
        clear k4 hy ha0 hcap
        go_wp2
        go_ret
        exact ⟨rfl, HG.out.low⟩
      · have e4 : (o.k == 4) = false := by simpa using k4
        have K4 := Lib.hid k4
        by_cases hov : av + o.y < 18446744073709551616
        · have HWR : Hid (IntKind.u64.wrap (av + o.y) = av + o.y) := Lib.hid (by rw [IntKind.wrap_u64]; omega)
          have hwr := HWR.out
          have hd : decide (av + o.y < av) = false := by simp; omega
          have HOV := Lib.hid hov
          clear k4 hy ha0 hcap hov
          go_wp2
          go_roundw
          case rel => exact ⟨j + 1, by omega, by go_num, by rw [HNX.out], by rw [HNX.out]; exact HOV.out, fun i y hi hy => by
              by_cases e : i = j
              · subst e; rw [HOo.out] at hy; cases hy; exact K4.out
              · exact HNO.out i y (by omega) hy, HG.out⟩
          case measure => simp [intOf]; omega
        · have HWR : Hid (IntKind.u64.wrap (av + o.y) = av + o.y - 18446744073709551616) := Lib.hid (by rw [IntKind.wrap_u64]; omega)
          have hwr := HWR.out
          have hd : decide (av + o.y - 18446744073709551616 < av) = true := by simp; omega
          clear k4 hy ha0 hcap hov
          go_wp2
          go_ret
          exact ⟨rfl, HG.out.low⟩
    · obtain rfl : j = bs.length := by omega
      have HBI : Hid (BetI (List.replicate n 0) (pick ops) (List.replicate bs.length 0) (List.replicate bs.length 0) (List.replicate bs.length false) 0) := Lib.hid (bet_start HPL.out HUU.out (by have := hcap; rwa [← HPL.out, List.take_length] at this) (fun i o ho => HNO.out i o (by rw [← HPL.out]; exact lt_of_get ho) ho))
      have hbu : iU.bytes * bs.length ≤ 281474976710656 := by rw [hU2]; omega
      have hbb : iB.bytes * bs.length ≤ 281474976710656 := by rw [hB2]; omega
      have hmu : bs.length ≤ maxLen := by unfold maxLen; omega
      clear hcap
      go_wp2_with (first
        | (at_make; refine wpList_make_full _ rfl _ _ 60 rfl wr.heap.size 29 iU (.int .u64 0) 1 Try.underlying60 hiU hU0 hU1 .i64 .i64 bs.length bs.length bs.length rfl rfl rfl rfl hbu hmu (Nat.le_refl _) ?_; intro w7 hown7 hgr7; have hrw := row_of_full hown7; rw [u64s_made] at hrw; have HR7 := Lib.hid hrw; have HG7 := Lib.hid (HG.out.on ((Below.refl _ _).grown hgr7 (Nat.le_refl _) (by simp))); clear hown7 hgr7 hrw)
        | (at_make; refine wpList_make_full _ rfl _ _ 96 rfl w7.heap.size 4 iB (.bool false) 1 Try.underlying96 hiB hB0 hB1 .i64 .i64 bs.length bs.length bs.length rfl rfl rfl rfl hbb hmu (Nat.le_refl _) ?_; intro w8 hown8 hgr8; have hrw := row_of_full hown8; rw [bools_made] at hrw; have HR8 := Lib.hid hrw; have hbe := (Below.refl w7.heap.size w7).grown hgr8 (Nat.le_refl _) (by simp); have HR78 := Lib.hid (HR7.out.below hbe HR7.out.lt); have HG8 := Lib.hid (HG7.out.on hbe); have HS8 := Lib.hid hbe.size; clear hown8 hgr8 hrw hbe)
        | (at_make; refine wpList_make_full _ rfl _ _ 60 rfl w8.heap.size 29 iU (.int .u64 0) 1 Try.underlying60 hiU hU0 hU1 .i64 .i64 bs.length bs.length bs.length rfl rfl rfl rfl hbu hmu (Nat.le_refl _) ?_; intro w9 hown9 hgr9; have hrw := row_of_full hown9; rw [u64s_made] at hrw; have hbe := (Below.refl w8.heap.size w8).grown hgr9 (Nat.le_refl _) (by simp); have HM9 : Hid (BetM W bc bk bw (List.replicate n 0) (pick ops) bs (.slice pa bs.length pc) (.slice ka bs.length kc) wr.heap.size w7.heap.size w8.heap.size (List.replicate bs.length 0) (List.replicate bs.length 0) (List.replicate bs.length false) w9) := Lib.hid (by
            have l7 := HR7.out.lt
            have l8 := HS8.out
            have lw := HG.out.low.size
            exact ⟨HG8.out.on hbe, HR78.out.below hbe HR78.out.lt, HR8.out.below hbe HR8.out.lt, hrw, by omega, ⟨lw, by omega, by omega⟩, by simp⟩); clear hown9 hgr9 hrw hbe))
      obtain ⟨gl, hgl⟩ : ∃ gl, wr.heap.size = gl := ⟨_, rfl⟩
      obtain ⟨gb, hgb⟩ : ∃ gb, w7.heap.size = gb := ⟨_, rfl⟩
      obtain ⟨gf, hgf⟩ : ∃ gf, w8.heap.size = gf := ⟨_, rfl⟩
      rw [hgl, hgb, hgf] at HM9
      rw [hgl, hgb, hgf]
      clear hgl hgb hgf
      go_loopw [13, 17, 18] (fun a gv u wr => ∃ j : Nat, j ≤ xs.length ∧ u = .int .i64 j ∧ ∃ ws os ls fs gs gr, ws.length = n ∧ a = .int .u64 (sumI ws) ∧ gv = .int .u64 gr ∧ BetM W bc bk bw ws os bs (.slice pa bs.length pc) (.slice ka bs.length kc) gl gb gf ls fs gs wr ∧ BetI ws os ls fs gs gr) (fun _ _ u _ => xs.length - (intOf u).toNat)
      case atStart => exact ⟨0, Nat.zero_le _, rfl, _, _, _, _, _, 0, by simp, by
          have : sumI (List.replicate n 0) = 0 := by have := HBI.out.gr0.2; have h2 := HBI.out.exact_; have h3 := HBI.out; have h4 : ∀ m : Nat, sumI (List.replicate m 0) = 0 := (fun m => by induction m with | zero => rfl | succ m ih => rw [List.replicate_succ, sumI_cons, ih]; rfl); exact h4 n
          rw [this], rfl, HM9.out, HBI.out⟩
      case round =>
        obtain ⟨j, hj, rfl, ws, os, ls, fs, gs, gr, hwn, rfl, rfl, hM, hI⟩ := hrel
        have HM := Lib.hid hM
        have HI := Lib.hid hI
        have HWN := Lib.hid hwn
        clear hM hI hwn HM9 HBI
        by_cases hlt : j < xs.length
        · obtain ⟨k, hk⟩ : ∃ k, xs[j]? = some k := ⟨xs[j], List.getElem?_eq_getElem hlt⟩
          obtain ⟨b', o', rfl, hlt', q0⟩ := (HX.out.on HM.out.going.low) j _ hk
          have hlt2 : (j : Int) < (xs.length : Int) := by omega
          clear hk
          by_cases hk0 : k < 0
          · go_wp2
            go_roundw
            case rel => exact ⟨j + 1, by omega, by go_num, ws, os, ls, fs, gs, gr, HWN.out, rfl, rfl, HM.out, HI.out⟩
            case measure => simp [intOf]; omega
          by_cases hkn : (bs.length : Int) ≤ k
          · go_wp2
            go_roundw
            case rel => exact ⟨j + 1, by omega, by go_num, ws, os, ls, fs, gs, gr, HWN.out, rfl, rfl, HM.out, HI.out⟩
            case measure => simp [intOf]; omega
          obtain ⟨q, rfl⟩ := Int.eq_ofNat_of_zero_le (show 0 ≤ k by omega)
          have hqn : q < bs.length := by omega
          obtain ⟨o, b, g, c, g', c', ho, hb, hv, hv', hc, hc0, hc2, hR, hrn, hok⟩ := HM.out.going.get hqn
          cases hv
          cases hv'
          have hq2 : (q : Int) < (bs.length : Int) := by omega
          have hq3 : q * 3 ≤ 52776558132480 := by omega
          have HOo := Lib.hid ho
          have HBb := Lib.hid hb
          have HRr := Lib.hid hR
          have HRN := Lib.hid hrn
          have HOK := Lib.hid hok
          have HSL := Lib.hid HI.out.sum_lt
          obtain ⟨igq, l, f, il, if_, _⟩ := HI.out.ops q o ho
          clear ho hb hR hrn hok hc0 hc2
          by_cases ht : many ws.length o.k ≤ o.t
          · have HD : Hid (decide (many ws.length o.k ≤ o.t) = true) := Lib.hid (by simp; exact ht)
            clear ht igq il if_
            go_wp2_with (go_at_call 43; refine (done_at HRr.out HD.out).mono ?_; rintro e wx ⟨rfl, rfl⟩)
            go_roundw
            case rel => exact ⟨j + 1, by omega, by go_num, ws, os, ls, fs, gs, gr, HWN.out, rfl, rfl, HM.out, HI.out⟩
            case measure => simp [intOf]; omega
          have HD : Hid (decide (many ws.length o.k ≤ o.t) = false) := Lib.hid (by simp; omega)
          have HT : Hid (o.t < many ws.length o.k) := Lib.hid (by omega)
          obtain ⟨x, hx⟩ := HM.out.going.cell HT.out
          have HXx := Lib.hid hx
          obtain ⟨n1, n2, n3⟩ := HM.out.len
          have HBS := Lib.hid (bet_step HI.out HOo.out HRN.out HOK.out HT.out HXx.out (by omega) (by omega) (by omega))
          have k4 := (HI.out.yy o (List.mem_of_getElem? HOo.out)).2
          have hkk : o.k = 1 ∨ o.k = 2 ∨ o.k = 3 := by have := HRN.out; unfold RightN at this; omega
          have gq := (HM.out.rb.cell q).trans (bools_get igq)
          have gfr := HM.out.rb.free q
          have glt := HM.out.rb.lt
          have lq := (HM.out.rl.cell q).trans (u64s_get2 il)
          have lfr := HM.out.rl.free q
          have llt := HM.out.rl.lt
          have fq := (HM.out.rf.cell q).trans (u64s_get2 if_)
          have ffr := HM.out.rf.free q
          have flt := HM.out.rf.lt
          have nlf := HM.out.ne
          have nlb : gl ≠ gb := HM.out.rl.ne HM.out.rb (by decide)
          have nfb : gf ≠ gb := HM.out.rf.ne HM.out.rb (by decide)
          have ngl : g ≠ gl := own_off HM.out.going.ps HM.out.rl (by decide) g rfl
          have ngb : g ≠ gb := own_off HM.out.going.ps HM.out.rb (by decide) g rfl
          have ngf : g ≠ gf := own_off HM.out.going.ps HM.out.rf (by decide) g rfl
          obtain ⟨S, hS⟩ : ∃ S, sumI ws = S := ⟨_, rfl⟩
          rw [hS] at HSL HBS ⊢
          have HSS := Lib.hid hS
          clear hx igq il if_ n1 n2 n3 ht k4 hS
          have hlen := HM.out.going.shard.pos
          by_cases ht0 : o.t = 0
          · rcases hkk with hk1 | hk1 | hk1
            · have hlast : decide (many ws.length o.k ≤ o.t + 1) = true := by rw [hk1, ht0]; simp [many]
              clear hlen
              have HT0 : Hid (o.t = 0) := Lib.hid ht0
              have gq0 : wr.cell? ⟨gb, q, none⟩ = some (.bool false) := by rw [gq, ht0]; rfl
              have HB1 := Lib.hid (HM.out.begin_ (q := q) (a := S) (g := gr))
              have HBI := Lib.hid (by have := HBS.out.1; rw [if_pos ht0, if_pos ht0, if_pos ht0] at this; exact this)
              have HOQ : Hid ((os.set q (nextS ws o x))[q]? = some (nextS ws o x)) := Lib.hid (List.getElem?_set_self (lt_of_get HOo.out))
              have HWN2 : Hid ((ws.set (cellOf ws.length o.k o.i o.t) (putOf o.k o.y x)).length = n) := Lib.hid (by rw [List.length_set]; exact HWN.out)
              have HK := Lib.hid hk1
              have HSU : Hid (sumI (ws.set (cellOf ws.length o.k o.i o.t) (putOf o.k o.y x)) = S + o.y) := Lib.hid (by rw [HBS.out.2.1, if_pos hk1])
              have hwr : IntKind.u64.wrap (S + o.y) = S + o.y := by have h1 := HBS.out.2.2.1; have h2 := HBS.out.2.2.2; rw [if_pos hk1] at h1 h2; rw [IntKind.wrap_u64]; omega
              have HLa : Hid (decide (many ws.length o.k ≤ o.t + 1) = true) := Lib.hid hlast
              clear hk1 hlast ht0 gq
              go_wp2_with (first
                | (go_at_call 43; refine (done_at HRr.out HD.out).mono ?_; rintro e wx ⟨rfl, rfl⟩)
                | (go_at_call 40; go_must (refine (step_at HB1.out.going.shard.words HB1.out.going.shard.pos HRN.out HT.out (HB1.out.going.pends.row q o b HOo.out HBb.out) HXx.out HLa.out).mono ?_); intro e w5 hs; go_must ( have hcp := hs; obtain ⟨he, _⟩ := hs; subst he; unfold didV; have HM5 := Lib.hid (HB1.out.step HOo.out HBb.out HT.out HXx.out hcp); have hgt := HM5.out.going.get hqn; obtain ⟨o5, b5, g5, c5, g6, c6, ho5, hb5, hv5, hv6, hc5, k50, k52, hR5, _, _⟩ := hgt; rw [HBb.out] at hb5; cases hb5; rw [HOQ.out] at ho5; cases ho5; cases hv5; cases hv6; have HR5 := Lib.hid hR5; have k5 : w5.cell? ⟨g', q * 3, none⟩ = some (.int .u8 1) := (by have := k50; rw [show (nextS ws o x).k = 1 from HK.out] at this; exact this); have y5 : w5.cell? ⟨g', q * 3 + 2, none⟩ = some (.int .u64 o.y) := k52; have g5lt := World.block_lt_of_cell? _ _ hc5; have g6lt := World.block_lt_of_cell? _ _ k5; clear hcp hR5 k50 k52)))
              go_roundw
              case rel => exact ⟨j + 1, by omega, by go_num, _, _, _, _, _, gr, HWN2.out, by rw [HSU.out], rfl, (by first | (with_reducible exact HM5.out) | (with_reducible exact HM5.out.alloc _) | exact HM5.out.on (by repeat (first | (with_reducible exact Below.refl _ _) | (with_reducible refine Below.alloc ?_ (Nat.le_refl _) _) | refine Below.setCell ?_ (by (try simp)) _))), HBI.out⟩
              case measure => simp [intOf]; omega
            · have hlast : decide (many ws.length o.k ≤ o.t + 1) = true := by rw [hk1, ht0]; simp [many]
              clear hlen
              have HT0 : Hid (o.t = 0) := Lib.hid ht0
              have gq0 : wr.cell? ⟨gb, q, none⟩ = some (.bool false) := by rw [gq, ht0]; rfl
              have HB1 := Lib.hid (HM.out.begin_ (q := q) (a := S) (g := gr))
              have HBI := Lib.hid (by have := HBS.out.1; rw [if_pos ht0, if_pos ht0, if_pos ht0] at this; exact this)
              have HOQ : Hid ((os.set q (nextS ws o x))[q]? = some (nextS ws o x)) := Lib.hid (List.getElem?_set_self (lt_of_get HOo.out))
              have HWN2 : Hid ((ws.set (cellOf ws.length o.k o.i o.t) (putOf o.k o.y x)).length = n) := Lib.hid (by rw [List.length_set]; exact HWN.out)
              have HK := Lib.hid hk1
              have HSU : Hid (sumI (ws.set (cellOf ws.length o.k o.i o.t) (putOf o.k o.y x)) = S) := Lib.hid (by rw [HBS.out.2.1, if_neg (by omega), Int.add_zero])
              have HLa : Hid (decide (many ws.length o.k ≤ o.t + 1) = true) := Lib.hid hlast
              clear hk1 hlast ht0 gq
              go_wp2_with (first
                | (go_at_call 43; refine (done_at HRr.out HD.out).mono ?_; rintro e wx ⟨rfl, rfl⟩)
                | (go_at_call 40; go_must (refine (step_at HB1.out.going.shard.words HB1.out.going.shard.pos HRN.out HT.out (HB1.out.going.pends.row q o b HOo.out HBb.out) HXx.out HLa.out).mono ?_); intro e w5 hs; go_must ( have hcp := hs; obtain ⟨he, _⟩ := hs; subst he; unfold didV; have HM5 := Lib.hid (HB1.out.step HOo.out HBb.out HT.out HXx.out hcp); have hgt := HM5.out.going.get hqn; obtain ⟨o5, b5, g5, c5, g6, c6, ho5, hb5, hv5, hv6, hc5, k50, k52, hR5, _, _⟩ := hgt; rw [HBb.out] at hb5; cases hb5; rw [HOQ.out] at ho5; cases ho5; cases hv5; cases hv6; have HR5 := Lib.hid hR5; have k5 : w5.cell? ⟨g', q * 3, none⟩ = some (.int .u8 2) := (by have := k50; rw [show (nextS ws o x).k = 2 from HK.out] at this; exact this); have y5 : w5.cell? ⟨g', q * 3 + 2, none⟩ = some (.int .u64 o.y) := k52; have g5lt := World.block_lt_of_cell? _ _ hc5; have g6lt := World.block_lt_of_cell? _ _ k5; clear hcp hR5 k50 k52)))
              go_roundw
              case rel => exact ⟨j + 1, by omega, by go_num, _, _, _, _, _, gr, HWN2.out, by rw [HSU.out], rfl, (by first | (with_reducible exact HM5.out) | (with_reducible exact HM5.out.alloc _) | exact HM5.out.on (by repeat (first | (with_reducible exact Below.refl _ _) | (with_reducible refine Below.alloc ?_ (Nat.le_refl _) _) | refine Below.setCell ?_ (by (try simp)) _))), HBI.out⟩
              case measure => simp [intOf]; omega
            · clear hlen
              cases hlast : decide (many ws.length o.k ≤ o.t + 1) with
              | false =>
                have HT0 : Hid (o.t = 0) := Lib.hid ht0
                have gq0 : wr.cell? ⟨gb, q, none⟩ = some (.bool false) := by rw [gq, ht0]; rfl
                have HB1 := Lib.hid (HM.out.begin_ (q := q) (a := S) (g := gr))
                have HBI := Lib.hid (by have := HBS.out.1; rw [if_pos ht0, if_pos ht0, if_pos ht0] at this; exact this)
                have HOQ : Hid ((os.set q (nextS ws o x))[q]? = some (nextS ws o x)) := Lib.hid (List.getElem?_set_self (lt_of_get HOo.out))
                have HWN2 : Hid ((ws.set (cellOf ws.length o.k o.i o.t) (putOf o.k o.y x)).length = n) := Lib.hid (by rw [List.length_set]; exact HWN.out)
                have HK := Lib.hid hk1
                have HSU : Hid (sumI (ws.set (cellOf ws.length o.k o.i o.t) (putOf o.k o.y x)) = S) := Lib.hid (by rw [HBS.out.2.1, if_neg (by omega), Int.add_zero])
                have HLa : Hid (decide (many ws.length o.k ≤ o.t + 1) = false) := Lib.hid hlast
                clear hk1 hlast ht0 gq
                go_wp2_with (first
                  | (go_at_call 43; refine (done_at HRr.out HD.out).mono ?_; rintro e wx ⟨rfl, rfl⟩)
                  | (go_at_call 40; go_must (refine (step_at HB1.out.going.shard.words HB1.out.going.shard.pos HRN.out HT.out (HB1.out.going.pends.row q o b HOo.out HBb.out) HXx.out HLa.out).mono ?_); intro e w5 hs; go_must ( have hcp := hs; obtain ⟨he, _⟩ := hs; subst he; unfold didV; have HM5 := Lib.hid (HB1.out.step HOo.out HBb.out HT.out HXx.out hcp); have hgt := HM5.out.going.get hqn; obtain ⟨o5, b5, g5, c5, g6, c6, ho5, hb5, hv5, hv6, hc5, k50, k52, hR5, _, _⟩ := hgt; rw [HBb.out] at hb5; cases hb5; rw [HOQ.out] at ho5; cases ho5; cases hv5; cases hv6; have HR5 := Lib.hid hR5; have k5 : w5.cell? ⟨g', q * 3, none⟩ = some (.int .u8 3) := (by have := k50; rw [show (nextS ws o x).k = 3 from HK.out] at this; exact this); have y5 : w5.cell? ⟨g', q * 3 + 2, none⟩ = some (.int .u64 o.y) := k52; have g5lt := World.block_lt_of_cell? _ _ hc5; have g6lt := World.block_lt_of_cell? _ _ k5; clear hcp hR5 k50 k52)))
                go_roundw
                case rel => exact ⟨j + 1, by omega, by go_num, _, _, _, _, _, gr, HWN2.out, by rw [HSU.out], rfl, (by first | (with_reducible exact HM5.out) | (with_reducible exact HM5.out.alloc _) | exact HM5.out.on (by repeat (first | (with_reducible exact Below.refl _ _) | (with_reducible refine Below.alloc ?_ (Nat.le_refl _) _) | refine Below.setCell ?_ (by (try simp)) _))), HBI.out⟩
                case measure => simp [intOf]; omega
              | true =>
                by_cases hgu : gr < (nextS ws o x).s
                · skip
                  have HT0 : Hid (o.t = 0) := Lib.hid ht0
                  have gq0 : wr.cell? ⟨gb, q, none⟩ = some (.bool false) := by rw [gq, ht0]; rfl
                  have HB1 := Lib.hid (HM.out.begin_ (q := q) (a := S) (g := gr))
                  have HBI := Lib.hid (by have := HBS.out.1; rw [if_pos ht0, if_pos ht0, if_pos ht0] at this; exact this)
                  have HOQ : Hid ((os.set q (nextS ws o x))[q]? = some (nextS ws o x)) := Lib.hid (List.getElem?_set_self (lt_of_get HOo.out))
                  have HWN2 : Hid ((ws.set (cellOf ws.length o.k o.i o.t) (putOf o.k o.y x)).length = n) := Lib.hid (by rw [List.length_set]; exact HWN.out)
                  have HK := Lib.hid hk1
                  have HSU : Hid (sumI (ws.set (cellOf ws.length o.k o.i o.t) (putOf o.k o.y x)) = S) := Lib.hid (by rw [HBS.out.2.1, if_neg (by omega), Int.add_zero])
                  have HLa : Hid (decide (many ws.length o.k ≤ o.t + 1) = true) := Lib.hid hlast
                  have HMO : Hid (many (ws.set (cellOf ws.length o.k o.i o.t) (putOf o.k o.y x)).length (nextS ws o x).k ≤ (nextS ws o x).t) := Lib.hid (by rw [List.length_set]; exact of_decide_eq_true hlast)
                  have hbl3 := bet_last HBI.out HOQ.out hk1 (by have := HMO.out; rw [show (nextS ws o x).k = 3 from hk1] at this; simpa [many] using this) (by simp [nextS])
                  obtain ⟨lv, fv, hlv, hfv, b1, b2, b3, b4⟩ := hbl3
                  rw [HSU.out] at b2
                  have HB0' := Lib.hid b4
                  have HB2' : Hid ((nextS ws o x).s ≤ sumI (ws.set (cellOf ws.length o.k o.i o.t) (putOf o.k o.y x))) := Lib.hid (by rw [HSU.out]; exact b2)
                  obtain ⟨sv, hsv⟩ : ∃ sv, (nextS ws o x).s = sv := ⟨_, rfl⟩
                  rw [hsv] at b1 b2 b3 b4 HB0' HB2'
                  have HSV := Lib.hid hsv
                  have HLV := Lib.hid hlv
                  have HFV := Lib.hid hfv
                  have d1 : decide (sv < lv) = false := by simp; omega
                  have d2 : decide (S < sv) = false := by simp; omega
                  have d3 : decide (sv < fv) = false := by simp; omega
                  have d4 : decide (gr < sv) = true := by simp; omega
                  clear b1 b2 b3 b4 hlv hfv hsv hgu
                  clear hk1 hlast ht0 gq
                  go_wp2_with (first
                    | (go_at_call 43; refine (done_at HRr.out HD.out).mono ?_; rintro e wx ⟨rfl, rfl⟩)
                    | (go_at_call 40; go_must (refine (step_at HB1.out.going.shard.words HB1.out.going.shard.pos HRN.out HT.out (HB1.out.going.pends.row q o b HOo.out HBb.out) HXx.out HLa.out).mono ?_); intro e w5 hs; go_must ( have hcp := hs; obtain ⟨he, _⟩ := hs; subst he; unfold didV; have HM5 := Lib.hid (HB1.out.step HOo.out HBb.out HT.out HXx.out hcp); have hgt := HM5.out.going.get hqn; obtain ⟨o5, b5, g5, c5, g6, c6, ho5, hb5, hv5, hv6, hc5, k50, k52, hR5, _, _⟩ := hgt; rw [HBb.out] at hb5; cases hb5; rw [HOQ.out] at ho5; cases ho5; cases hv5; cases hv6; have HR5 := Lib.hid hR5; have k5 : w5.cell? ⟨g', q * 3, none⟩ = some (.int .u8 3) := (by have := k50; rw [show (nextS ws o x).k = 3 from HK.out] at this; exact this); have y5 : w5.cell? ⟨g', q * 3 + 2, none⟩ = some (.int .u64 o.y) := k52; have g5lt := World.block_lt_of_cell? _ _ hc5; have g6lt := World.block_lt_of_cell? _ _ k5; clear hcp hR5 k50 k52; have lq5 := (HM5.out.rl.cell q).trans (u64s_get2 HLV.out); have fq5 := (HM5.out.rf.cell q).trans (u64s_get2 HFV.out); have lt5 := HM5.out.rl.lt; have ft5 := HM5.out.rf.lt))
                    | (go_at_call 44; (first | refine (answer_at (o := nextS ws o x) HR5.out HMO.out).mono ?_ | refine (answer_at (o := nextS ws o x) (HR5.out.alloc _) HMO.out).mono ?_ | refine (answer_at (o := nextS ws o x) (HR5.out.below (by repeat (first | (with_reducible exact Below.refl _ _) | (with_reducible refine Below.alloc ?_ (Nat.le_refl _) _) | refine Below.setCell ?_ (by (try simp)) _)) HR5.out.lt) HMO.out).mono ?_); rw [HSV.out]; rintro e wx ⟨rfl, rfl⟩))
                  go_roundw
                  case rel => exact ⟨j + 1, by omega, by go_num, _, _, _, _, _, sv, HWN2.out, by rw [HSU.out], rfl, (by first | (with_reducible exact HM5.out) | (with_reducible exact HM5.out.alloc _) | exact HM5.out.on (by repeat (first | (with_reducible exact Below.refl _ _) | (with_reducible refine Below.alloc ?_ (Nat.le_refl _) _) | refine Below.setCell ?_ (by (try simp)) _))), HBI.out.up HB0'.out HB2'.out⟩
                  case measure => simp [intOf]; omega
                · skip
                  have HT0 : Hid (o.t = 0) := Lib.hid ht0
                  have gq0 : wr.cell? ⟨gb, q, none⟩ = some (.bool false) := by rw [gq, ht0]; rfl
                  have HB1 := Lib.hid (HM.out.begin_ (q := q) (a := S) (g := gr))
                  have HBI := Lib.hid (by have := HBS.out.1; rw [if_pos ht0, if_pos ht0, if_pos ht0] at this; exact this)
                  have HOQ : Hid ((os.set q (nextS ws o x))[q]? = some (nextS ws o x)) := Lib.hid (List.getElem?_set_self (lt_of_get HOo.out))
                  have HWN2 : Hid ((ws.set (cellOf ws.length o.k o.i o.t) (putOf o.k o.y x)).length = n) := Lib.hid (by rw [List.length_set]; exact HWN.out)
                  have HK := Lib.hid hk1
                  have HSU : Hid (sumI (ws.set (cellOf ws.length o.k o.i o.t) (putOf o.k o.y x)) = S) := Lib.hid (by rw [HBS.out.2.1, if_neg (by omega), Int.add_zero])
                  have HLa : Hid (decide (many ws.length o.k ≤ o.t + 1) = true) := Lib.hid hlast
                  have HMO : Hid (many (ws.set (cellOf ws.length o.k o.i o.t) (putOf o.k o.y x)).length (nextS ws o x).k ≤ (nextS ws o x).t) := Lib.hid (by rw [List.length_set]; exact of_decide_eq_true hlast)
                  have hbl3 := bet_last HBI.out HOQ.out hk1 (by have := HMO.out; rw [show (nextS ws o x).k = 3 from hk1] at this; simpa [many] using this) (by simp [nextS])
                  obtain ⟨lv, fv, hlv, hfv, b1, b2, b3, b4⟩ := hbl3
                  rw [HSU.out] at b2
                  have HB0' := Lib.hid b4
                  have HB2' : Hid ((nextS ws o x).s ≤ sumI (ws.set (cellOf ws.length o.k o.i o.t) (putOf o.k o.y x))) := Lib.hid (by rw [HSU.out]; exact b2)
                  obtain ⟨sv, hsv⟩ : ∃ sv, (nextS ws o x).s = sv := ⟨_, rfl⟩
                  rw [hsv] at b1 b2 b3 b4 HB0' HB2'
                  have HSV := Lib.hid hsv
                  have HLV := Lib.hid hlv
                  have HFV := Lib.hid hfv
                  have d1 : decide (sv < lv) = false := by simp; omega
                  have d2 : decide (S < sv) = false := by simp; omega
                  have d3 : decide (sv < fv) = false := by simp; omega
                  have d4 : decide (gr < sv) = false := by simp; omega
                  clear b1 b2 b3 b4 hlv hfv hsv hgu
                  clear hk1 hlast ht0 gq
                  go_wp2_with (first
                    | (go_at_call 43; refine (done_at HRr.out HD.out).mono ?_; rintro e wx ⟨rfl, rfl⟩)
                    | (go_at_call 40; go_must (refine (step_at HB1.out.going.shard.words HB1.out.going.shard.pos HRN.out HT.out (HB1.out.going.pends.row q o b HOo.out HBb.out) HXx.out HLa.out).mono ?_); intro e w5 hs; go_must ( have hcp := hs; obtain ⟨he, _⟩ := hs; subst he; unfold didV; have HM5 := Lib.hid (HB1.out.step HOo.out HBb.out HT.out HXx.out hcp); have hgt := HM5.out.going.get hqn; obtain ⟨o5, b5, g5, c5, g6, c6, ho5, hb5, hv5, hv6, hc5, k50, k52, hR5, _, _⟩ := hgt; rw [HBb.out] at hb5; cases hb5; rw [HOQ.out] at ho5; cases ho5; cases hv5; cases hv6; have HR5 := Lib.hid hR5; have k5 : w5.cell? ⟨g', q * 3, none⟩ = some (.int .u8 3) := (by have := k50; rw [show (nextS ws o x).k = 3 from HK.out] at this; exact this); have y5 : w5.cell? ⟨g', q * 3 + 2, none⟩ = some (.int .u64 o.y) := k52; have g5lt := World.block_lt_of_cell? _ _ hc5; have g6lt := World.block_lt_of_cell? _ _ k5; clear hcp hR5 k50 k52; have lq5 := (HM5.out.rl.cell q).trans (u64s_get2 HLV.out); have fq5 := (HM5.out.rf.cell q).trans (u64s_get2 HFV.out); have lt5 := HM5.out.rl.lt; have ft5 := HM5.out.rf.lt))
                    | (go_at_call 44; (first | refine (answer_at (o := nextS ws o x) HR5.out HMO.out).mono ?_ | refine (answer_at (o := nextS ws o x) (HR5.out.alloc _) HMO.out).mono ?_ | refine (answer_at (o := nextS ws o x) (HR5.out.below (by repeat (first | (with_reducible exact Below.refl _ _) | (with_reducible refine Below.alloc ?_ (Nat.le_refl _) _) | refine Below.setCell ?_ (by (try simp)) _)) HR5.out.lt) HMO.out).mono ?_); rw [HSV.out]; rintro e wx ⟨rfl, rfl⟩))
                  go_roundw
                  case rel => exact ⟨j + 1, by omega, by go_num, _, _, _, _, _, gr, HWN2.out, by rw [HSU.out], rfl, (by first | (with_reducible exact HM5.out) | (with_reducible exact HM5.out.alloc _) | exact HM5.out.on (by repeat (first | (with_reducible exact Below.refl _ _) | (with_reducible refine Below.alloc ?_ (Nat.le_refl _) _) | refine Below.setCell ?_ (by (try simp)) _))), HBI.out⟩
                  case measure => simp [intOf]; omega
          · have hk1 : o.k = 3 := by
              have := HT.out
              rcases hkk with h | h | h
              · rw [h] at this; simp [many] at this; omega
              · rw [h] at this; simp [many] at this; omega
              · exact h
            clear hlen
            cases hlast : decide (many ws.length o.k ≤ o.t + 1) with
            | false =>
              have gq0 : wr.cell? ⟨gb, q, none⟩ = some (.bool true) := by
                rw [gq]
                have : 0 < o.t := by omega
                simp [this]
              have HBI := Lib.hid (by have := HBS.out.1; rw [if_neg ht0, if_neg ht0, if_neg ht0] at this; exact this)
              have HOQ : Hid ((os.set q (nextS ws o x))[q]? = some (nextS ws o x)) := Lib.hid (List.getElem?_set_self (lt_of_get HOo.out))
              have HWN2 : Hid ((ws.set (cellOf ws.length o.k o.i o.t) (putOf o.k o.y x)).length = n) := Lib.hid (by rw [List.length_set]; exact HWN.out)
              have HK := Lib.hid hk1
              have HSU : Hid (sumI (ws.set (cellOf ws.length o.k o.i o.t) (putOf o.k o.y x)) = S) := Lib.hid (by rw [HBS.out.2.1, if_neg (by omega), Int.add_zero])
              have HLa : Hid (decide (many ws.length o.k ≤ o.t + 1) = false) := Lib.hid hlast
              clear hk1 hlast ht0 gq
              go_wp2_with (first
                | (go_at_call 43; refine (done_at HRr.out HD.out).mono ?_; rintro e wx ⟨rfl, rfl⟩)
                | (go_at_call 40; go_must (refine (step_at HM.out.going.shard.words HM.out.going.shard.pos HRN.out HT.out (HRr.out) HXx.out HLa.out).mono ?_); intro e w5 hs; go_must ( have hcp := hs; obtain ⟨he, _⟩ := hs; subst he; unfold didV; have HM5 := Lib.hid (HM.out.step HOo.out HBb.out HT.out HXx.out hcp); have hgt := HM5.out.going.get hqn; obtain ⟨o5, b5, g5, c5, g6, c6, ho5, hb5, hv5, hv6, hc5, k50, k52, hR5, _, _⟩ := hgt; rw [HBb.out] at hb5; cases hb5; rw [HOQ.out] at ho5; cases ho5; cases hv5; cases hv6; have HR5 := Lib.hid hR5; have k5 : w5.cell? ⟨g', q * 3, none⟩ = some (.int .u8 3) := (by have := k50; rw [show (nextS ws o x).k = 3 from HK.out] at this; exact this); have y5 : w5.cell? ⟨g', q * 3 + 2, none⟩ = some (.int .u64 o.y) := k52; have g5lt := World.block_lt_of_cell? _ _ hc5; have g6lt := World.block_lt_of_cell? _ _ k5; clear hcp hR5 k50 k52)))
              go_roundw
              case rel => exact ⟨j + 1, by omega, by go_num, _, _, _, _, _, gr, HWN2.out, by rw [HSU.out], rfl, (by first | (with_reducible exact HM5.out) | (with_reducible exact HM5.out.alloc _) | exact HM5.out.on (by repeat (first | (with_reducible exact Below.refl _ _) | (with_reducible refine Below.alloc ?_ (Nat.le_refl _) _) | refine Below.setCell ?_ (by (try simp)) _))), HBI.out⟩
              case measure => simp [intOf]; omega
            | true =>
              by_cases hgu : gr < (nextS ws o x).s
              · skip
                have gq0 : wr.cell? ⟨gb, q, none⟩ = some (.bool true) := by
                  rw [gq]
                  have : 0 < o.t := by omega
                  simp [this]
                have HBI := Lib.hid (by have := HBS.out.1; rw [if_neg ht0, if_neg ht0, if_neg ht0] at this; exact this)
                have HOQ : Hid ((os.set q (nextS ws o x))[q]? = some (nextS ws o x)) := Lib.hid (List.getElem?_set_self (lt_of_get HOo.out))
                have HWN2 : Hid ((ws.set (cellOf ws.length o.k o.i o.t) (putOf o.k o.y x)).length = n) := Lib.hid (by rw [List.length_set]; exact HWN.out)
                have HK := Lib.hid hk1
                have HSU : Hid (sumI (ws.set (cellOf ws.length o.k o.i o.t) (putOf o.k o.y x)) = S) := Lib.hid (by rw [HBS.out.2.1, if_neg (by omega), Int.add_zero])
                have HLa : Hid (decide (many ws.length o.k ≤ o.t + 1) = true) := Lib.hid hlast
                have HMO : Hid (many (ws.set (cellOf ws.length o.k o.i o.t) (putOf o.k o.y x)).length (nextS ws o x).k ≤ (nextS ws o x).t) := Lib.hid (by rw [List.length_set]; exact of_decide_eq_true hlast)
                have hbl3 := bet_last HBI.out HOQ.out hk1 (by have := HMO.out; rw [show (nextS ws o x).k = 3 from hk1] at this; simpa [many] using this) (by simp [nextS])
                obtain ⟨lv, fv, hlv, hfv, b1, b2, b3, b4⟩ := hbl3
                rw [HSU.out] at b2
                have HB0' := Lib.hid b4
                have HB2' : Hid ((nextS ws o x).s ≤ sumI (ws.set (cellOf ws.length o.k o.i o.t) (putOf o.k o.y x))) := Lib.hid (by rw [HSU.out]; exact b2)
                obtain ⟨sv, hsv⟩ : ∃ sv, (nextS ws o x).s = sv := ⟨_, rfl⟩
                rw [hsv] at b1 b2 b3 b4 HB0' HB2'
                have HSV := Lib.hid hsv
                have HLV := Lib.hid hlv
                have HFV := Lib.hid hfv
                have d1 : decide (sv < lv) = false := by simp; omega
                have d2 : decide (S < sv) = false := by simp; omega
                have d3 : decide (sv < fv) = false := by simp; omega
                have d4 : decide (gr < sv) = true := by simp; omega
                clear b1 b2 b3 b4 hlv hfv hsv hgu
                clear hk1 hlast ht0 gq
                go_wp2_with (first
                  | (go_at_call 43; refine (done_at HRr.out HD.out).mono ?_; rintro e wx ⟨rfl, rfl⟩)
                  | (go_at_call 40; go_must (refine (step_at HM.out.going.shard.words HM.out.going.shard.pos HRN.out HT.out (HRr.out) HXx.out HLa.out).mono ?_); intro e w5 hs; go_must ( have hcp := hs; obtain ⟨he, _⟩ := hs; subst he; unfold didV; have HM5 := Lib.hid (HM.out.step HOo.out HBb.out HT.out HXx.out hcp); have hgt := HM5.out.going.get hqn; obtain ⟨o5, b5, g5, c5, g6, c6, ho5, hb5, hv5, hv6, hc5, k50, k52, hR5, _, _⟩ := hgt; rw [HBb.out] at hb5; cases hb5; rw [HOQ.out] at ho5; cases ho5; cases hv5; cases hv6; have HR5 := Lib.hid hR5; have k5 : w5.cell? ⟨g', q * 3, none⟩ = some (.int .u8 3) := (by have := k50; rw [show (nextS ws o x).k = 3 from HK.out] at this; exact this); have y5 : w5.cell? ⟨g', q * 3 + 2, none⟩ = some (.int .u64 o.y) := k52; have g5lt := World.block_lt_of_cell? _ _ hc5; have g6lt := World.block_lt_of_cell? _ _ k5; clear hcp hR5 k50 k52; have lq5 := (HM5.out.rl.cell q).trans (u64s_get2 HLV.out); have fq5 := (HM5.out.rf.cell q).trans (u64s_get2 HFV.out); have lt5 := HM5.out.rl.lt; have ft5 := HM5.out.rf.lt))
                  | (go_at_call 44; (first | refine (answer_at (o := nextS ws o x) HR5.out HMO.out).mono ?_ | refine (answer_at (o := nextS ws o x) (HR5.out.alloc _) HMO.out).mono ?_ | refine (answer_at (o := nextS ws o x) (HR5.out.below (by repeat (first | (with_reducible exact Below.refl _ _) | (with_reducible refine Below.alloc ?_ (Nat.le_refl _) _) | refine Below.setCell ?_ (by (try simp)) _)) HR5.out.lt) HMO.out).mono ?_); rw [HSV.out]; rintro e wx ⟨rfl, rfl⟩))
                go_roundw
                case rel => exact ⟨j + 1, by omega, by go_num, _, _, _, _, _, sv, HWN2.out, by rw [HSU.out], rfl, (by first | (with_reducible exact HM5.out) | (with_reducible exact HM5.out.alloc _) | exact HM5.out.on (by repeat (first | (with_reducible exact Below.refl _ _) | (with_reducible refine Below.alloc ?_ (Nat.le_refl _) _) | refine Below.setCell ?_ (by (try simp)) _))), HBI.out.up HB0'.out HB2'.out⟩
                case measure => simp [intOf]; omega
              · skip
                have gq0 : wr.cell? ⟨gb, q, none⟩ = some (.bool true) := by
                  rw [gq]
                  have : 0 < o.t := by omega
                  simp [this]
                have HBI := Lib.hid (by have := HBS.out.1; rw [if_neg ht0, if_neg ht0, if_neg ht0] at this; exact this)
                have HOQ : Hid ((os.set q (nextS ws o x))[q]? = some (nextS ws o x)) := Lib.hid (List.getElem?_set_self (lt_of_get HOo.out))
                have HWN2 : Hid ((ws.set (cellOf ws.length o.k o.i o.t) (putOf o.k o.y x)).length = n) := Lib.hid (by rw [List.length_set]; exact HWN.out)
                have HK := Lib.hid hk1
                have HSU : Hid (sumI (ws.set (cellOf ws.length o.k o.i o.t) (putOf o.k o.y x)) = S) := Lib.hid (by rw [HBS.out.2.1, if_neg (by omega), Int.add_zero])
                have HLa : Hid (decide (many ws.length o.k ≤ o.t + 1) = true) := Lib.hid hlast
                have HMO : Hid (many (ws.set (cellOf ws.length o.k o.i o.t) (putOf o.k o.y x)).length (nextS ws o x).k ≤ (nextS ws o x).t) := Lib.hid (by rw [List.length_set]; exact of_decide_eq_true hlast)
                have hbl3 := bet_last HBI.out HOQ.out hk1 (by have := HMO.out; rw [show (nextS ws o x).k = 3 from hk1] at this; simpa [many] using this) (by simp [nextS])
                obtain ⟨lv, fv, hlv, hfv, b1, b2, b3, b4⟩ := hbl3
                rw [HSU.out] at b2
                have HB0' := Lib.hid b4
                have HB2' : Hid ((nextS ws o x).s ≤ sumI (ws.set (cellOf ws.length o.k o.i o.t) (putOf o.k o.y x))) := Lib.hid (by rw [HSU.out]; exact b2)
                obtain ⟨sv, hsv⟩ : ∃ sv, (nextS ws o x).s = sv := ⟨_, rfl⟩
                rw [hsv] at b1 b2 b3 b4 HB0' HB2'
                have HSV := Lib.hid hsv
                have HLV := Lib.hid hlv
                have HFV := Lib.hid hfv
                have d1 : decide (sv < lv) = false := by simp; omega
                have d2 : decide (S < sv) = false := by simp; omega
                have d3 : decide (sv < fv) = false := by simp; omega
                have d4 : decide (gr < sv) = false := by simp; omega
                clear b1 b2 b3 b4 hlv hfv hsv hgu
                clear hk1 hlast ht0 gq
                go_wp2_with (first
                  | (go_at_call 43; refine (done_at HRr.out HD.out).mono ?_; rintro e wx ⟨rfl, rfl⟩)
                  | (go_at_call 40; go_must (refine (step_at HM.out.going.shard.words HM.out.going.shard.pos HRN.out HT.out (HRr.out) HXx.out HLa.out).mono ?_); intro e w5 hs; go_must ( have hcp := hs; obtain ⟨he, _⟩ := hs; subst he; unfold didV; have HM5 := Lib.hid (HM.out.step HOo.out HBb.out HT.out HXx.out hcp); have hgt := HM5.out.going.get hqn; obtain ⟨o5, b5, g5, c5, g6, c6, ho5, hb5, hv5, hv6, hc5, k50, k52, hR5, _, _⟩ := hgt; rw [HBb.out] at hb5; cases hb5; rw [HOQ.out] at ho5; cases ho5; cases hv5; cases hv6; have HR5 := Lib.hid hR5; have k5 : w5.cell? ⟨g', q * 3, none⟩ = some (.int .u8 3) := (by have := k50; rw [show (nextS ws o x).k = 3 from HK.out] at this; exact this); have y5 : w5.cell? ⟨g', q * 3 + 2, none⟩ = some (.int .u64 o.y) := k52; have g5lt := World.block_lt_of_cell? _ _ hc5; have g6lt := World.block_lt_of_cell? _ _ k5; clear hcp hR5 k50 k52; have lq5 := (HM5.out.rl.cell q).trans (u64s_get2 HLV.out); have fq5 := (HM5.out.rf.cell q).trans (u64s_get2 HFV.out); have lt5 := HM5.out.rl.lt; have ft5 := HM5.out.rf.lt))
                  | (go_at_call 44; (first | refine (answer_at (o := nextS ws o x) HR5.out HMO.out).mono ?_ | refine (answer_at (o := nextS ws o x) (HR5.out.alloc _) HMO.out).mono ?_ | refine (answer_at (o := nextS ws o x) (HR5.out.below (by repeat (first | (with_reducible exact Below.refl _ _) | (with_reducible refine Below.alloc ?_ (Nat.le_refl _) _) | refine Below.setCell ?_ (by (try simp)) _)) HR5.out.lt) HMO.out).mono ?_); rw [HSV.out]; rintro e wx ⟨rfl, rfl⟩))
                go_roundw
                case rel => exact ⟨j + 1, by omega, by go_num, _, _, _, _, _, gr, HWN2.out, by rw [HSU.out], rfl, (by first | (with_reducible exact HM5.out) | (with_reducible exact HM5.out.alloc _) | exact HM5.out.on (by repeat (first | (with_reducible exact Below.refl _ _) | (with_reducible refine Below.alloc ?_ (Nat.le_refl _) _) | refine Below.setCell ?_ (by (try simp)) _))), HBI.out⟩
                case measure => simp [intOf]; omega
        · obtain rfl : j = xs.length := by omega
          go_wp2
          go_ret
          exact ⟨rfl, HM.out.going.low⟩
end Go.Proofs.Ytigknlipeipbgaa
