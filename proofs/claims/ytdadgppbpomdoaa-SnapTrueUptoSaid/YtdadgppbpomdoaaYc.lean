/- THE WALK of the law 'SnapTrue'. -/
import Derived.Test.YtdadgppbpomdoaaYb
import Derived.Deep.RegionHeld3
import Derived.Deep.Cut
import Derived.Deep.CutRange
import Derived.Deep.DeepCutAuto
namespace Go.Proofs.Ytdadgppbpomdoaa
open Go Go.RowKit

theorem infoI : (Try.prog.info? 3).map (fun i => (i.zero, i.size, i.bytes)) = some (some (.int .i64 0), 1, 8) := by kernel_rfl
theorem infoSR : (Try.prog.info? 41).map (fun i => (i.zero, i.size, i.bytes)) = some (some (.slice none 0 0), 1, 24) := by kernel_rfl
set_option maxRecDepth 100000
theorem strue_no {n : Int} (h : n < 1 ∨ 64 < n) {A B : Option Addr} {len cap len' cap' : Nat} (W : World) :
    Calls Try.prog 6 #[.int .i64 n, .slice A len cap, .slice B len' cap'] W fun e w' => e = .returned (.bool true) ∧ Below W.heap.size W w' := by
  have H := Lib.hid h
  clear h
  go_enter Try.func6, Try.ntmps6
  go_wp2_with (first
    | (go_at_call 11; refine (rbegins_any _).mono ?_; rintro e w0 ⟨rfl, hb⟩; have HB0 := Lib.hid hb; clear hb)
    | (go_at_call 10; refine (rnew_no H.out).mono ?_; rintro e wx ⟨rfl, rfl⟩))
  go_ret
  exact ⟨rfl, HB0.out⟩
theorem rall_n {w : World} {br bk bw n : Nat} {ws : List Int} (h : Regs w br bk bw ws) (hn : ws.length = n) :
    Calls Try.prog 20 #[.pointer (some ⟨br, 0, none⟩)] w fun e w' => ∃ b, e = .returned (.slice (some ⟨b, 0, none⟩) n n) ∧ w.heap.size ≤ b ∧ Row w' b 60 (regCells ws) ∧ Below w.heap.size w w' := by
  subst hn
  exact rall_any h
theorem one_sl (a : Addr) (n c : Nat) : ∀ u ∈ [Value.slice (some a) n c], u.oneCell' = true := by intro u hu; simp at hu; subst hu; rfl
/-- the first moment, and the tables -/
theorem true_begin {W w2 w3 w4 w5 : World} {n br bk bw b : Nat} {ops : List (Int × Int × Int × Int)} {bs : List Nat} {Fs : List (List Nat)} {vp vk : Value} (h : ManyQ W n br bk bw (List.replicate n 0) (pickQ n ops) bs Fs vp vk [] w2) (hn : n ≤ 64)
    (hb : w2.heap.size ≤ b) (hr : Row w3 b 60 (regCells (List.replicate n 0))) (hbl : Below w2.heap.size w2 w3)
    (hf : Row w4 (w3.heap.size + 1) 3 (List.replicate bs.length (.int .i64 0))) (h4 : Below (w3.heap.size + 1) (w3.alloc (.cells #[.slice (some ⟨b, 0, none⟩) n n] 41)) w4)
    (ha : Row w5 w4.heap.size 41 (List.replicate bs.length (.slice none 0 0))) (h5 : Below w4.heap.size w4 w5) :
    TrueSt W n br bk bw (List.replicate n 0) (pickQ n ops) bs Fs vp vk [List.replicate n 0] (.slice (some ⟨w3.heap.size, 0, none⟩) 1 1) [.slice (some ⟨b, 0, none⟩) n n] (w3.heap.size + 1) (List.replicate bs.length 0) w4.heap.size (List.replicate bs.length (.slice none 0 0)) (List.replicate bs.length []) (.slice none 0 0) [] [b] w5 := by
  have s2 := h.st.low.size
  have s3 := hbl.size
  have s4 := h4.size
  have s5 := h5.size
  have lf := hf.lt
  rw [World.size_alloc] at s4
  have e3 : Below w2.heap.size w2 (w3.alloc (.cells #[.slice (some ⟨b, 0, none⟩) n n] 41)) := hbl.alloc s3 _
  have e4 : Below w2.heap.size w2 w4 := e3.trans (h4.mono (by omega))
  have e5 : Below w2.heap.size w2 w5 := e4.trans (h5.mono (by omega))
  have hm := h.on e5
  have rb : Row w5 b 60 (regCells (List.replicate n 0)) := ((hr.alloc _).below h4 (by have := hr.lt; omega)).below h5 (by have := hr.lt; omega)
  have rm : Row w5 w3.heap.size 41 [.slice (some ⟨b, 0, none⟩) n n] := ((Row.new w3 _ [.slice (some ⟨b, 0, none⟩) n n]).below h4 (by omega)).below h5 (by omega)
  have rf := hf.below h5 lf
  refine ⟨⟨hm.st, hm.ps, hm.ks, hm.pends.withX (fun y hy => ?_)⟩, ⟨rfl, .inr ⟨w3.heap.size, 1, #[.slice (some ⟨b, 0, none⟩) n n], rfl, by omega, rm, Nat.le_refl _, by unfold maxLen; omega, rfl, rfl⟩⟩, fun m v x h1 h2 => ?_, ?_, ha, fun q v a h1 h2 => ?_, .inl ⟨rfl, rfl⟩, by simp, ?_, by omega, by omega⟩
  · simp [Value.ownBlock] at hy ⊢
    have old : ∀ z, w2.heap.size ≤ z → z < w5.heap.size → (∀ F ∈ Fs, z ∉ F) ∧ z < w5.heap.size := fun z hz hz' => ⟨fun F hF hm' => by have := (h.pends.lt hF hm').2; omega, hz'⟩
    rcases hy with e | e | e | e | e | e | e | e | e
    · exact .inl (.inl e)
    · exact .inl (.inr (.inl e))
    · exact .inl (.inr (.inr (.inl e)))
    · exact .inl (.inr (.inr (.inr (.inl e))))
    · exact .inl (.inr (.inr (.inr (.inr e))))
    · exact .inr (old y (by omega) (by omega))
    · exact .inr (old y (by omega) (by have := ha.lt; omega))
    · exact .inr (old y (by omega) (by omega))
    · exact .inr (old y (by omega) (by have := rb.lt; omega))
  · have hm0 : m = 0 := by have := lt_of_get h1; simpa using this
    subst hm0
    simp at h1 h2
    subst h1
    subst h2
    exact ⟨⟨b, n, rfl, by simp⟩, own_of_reg rb (by omega) (by simp) (by unfold maxLen; omega)⟩
  · have : natsI (List.replicate bs.length 0) = List.replicate bs.length (.int .i64 0) := by simp [natsI]
    rw [this]
    exact rf
  · have e1 := List.eq_of_mem_replicate (List.mem_of_getElem? h1)
    have e2 := List.eq_of_mem_replicate (List.mem_of_getElem? h2)
    exact .inl ⟨e2, e1⟩
  · intro e
    simp [Value.ownBlock] at e
    omega
/-- what stands ahead of a round -/
def TrueAt (W : World) (n br bk bw : Nat) (bs : List Nat) (vp vk : Value) (gf ga k : Nat) (vm vf : Value) (wr : World) : Prop :=
  ∃ ws os Fs hist ms first avs ah fl X, hist.length ≤ k + 1 ∧ SeenQ n hist ws os first fl ah ∧ TrueSt W n br bk bw ws os bs Fs vp vk hist vm ms gf first ga avs ah vf fl X wr
section
variable {W wr w1 : World} {n br bk bw gf ga : Nat} {ws : List Int} {os : List OpQ} {bs : List Nat} {Fs : List (List Nat)} {vp vk vm vf : Value} {hist : List (List Int)} {ms avs : List Value} {first : List Nat} {ah : List (List Int)} {fl : List Int} {X : List Nat}
theorem TrueSt.msn {m : Nat} (h : TrueSt W n br bk bw ws os bs Fs vp vk hist vm ms gf first ga avs ah vf fl X wr) (hm : hist.length = m) : wr.ownsRow W.heap.size 41 1 vm m ms := by
  subst hm
  exact h.mrow
theorem TrueSt.kind' {q gk ck : Nat} {o : OpQ} {ws' : List Int} (h : TrueSt W n br bk bw ws' (os.set q (stepQ ws o)) bs Fs vp (.slice (some ⟨gk, 0, none⟩) bs.length ck) hist vm ms gf first ga avs ah vf fl X wr) (ho : os[q]? = some o) :
    wr.cell? ⟨gk, q * 4, none⟩ = some (.int .u8 o.k) ∧ wr.cell? ⟨gk, q * 4 + 3, none⟩ = some (.int .i64 o.t) ∧ gk < wr.heap.size := by
  have := h.kind (List.getElem?_set_self (lt_of_get ho))
  rwa [(stepQ_same ws o).1, (stepQ_same ws o).2.2.2] at this
theorem TrueSt.tables (h : TrueSt W n br bk bw ws os bs Fs vp vk hist vm ms gf first ga avs ah vf fl X wr) : ¬ gf = ga ∧ ¬ ga = gf := ⟨h.frow.ne h.arow (by decide), h.arow.ne h.frow (by decide)⟩
end
set_option maxHeartbeats 6400000 in
theorem strue_yes {n : Nat} (h1 : 1 ≤ n) (h64 : n ≤ 64) {A B : Option Addr} {cap cap' : Nat} {ops : List (Int × Int × Int × Int)} {xs : List Int} (W : World) (hE : Ext4 .u8 .i64 .u32 .i64 W A ops) (hv : ∀ op ∈ ops, U32 op.2.2.1) (hr : ops.length ≤ 1048576) (hX : Ext .i64 W B xs) (hr2 : xs.length ≤ 1048576) :
    Calls Try.prog 6 #[.int .i64 (n : Int), .slice A ops.length cap, .slice B xs.length cap'] W fun e w' => e = .returned (.bool true) ∧ Below W.heap.size W w' := by
  obtain ⟨ir, hir, hr0, hr1, hrb2⟩ := info_parts infoSR
  obtain ⟨ii, hii, hi0, hi1, hi2⟩ := info_parts infoI
  have HE := Lib.hid hE
  have HV := Lib.hid hv
  have HXS := Lib.hid hX
  have H1 := Lib.hid h1
  have H64 := Lib.hid h64
  have HIR := Lib.hid hir
  have HIR0 := Lib.hid hr0
  have HIR1 := Lib.hid hr1
  have HIR2 := Lib.hid hrb2
  have HR : Hid (ops.length * 32 ≤ 140737488351232) := Lib.hid (by omega)
  have HOPS := Lib.hid hr
  clear hE h1 hv hX
  go_enter Try.func6, Try.ntmps6
  go_wp2_with (first
    | (go_at_call 11; refine (rbegins_any _).mono ?_; rintro e w0 ⟨rfl, hb⟩; have HB0 := Lib.hid hb; clear hb)
    | (go_at_call 10; refine (rnew_yes w0 H1.out H64.out).mono ?_; rintro e w1 ⟨br, bk, bw, rfl, hc, hk, hw, hS, hb⟩; have HS1 : Hid (SnSt W n br bk bw (List.replicate n 0) w1) := Lib.hid ⟨hS, by simp, Nat.le_trans HB0.out.size hw, HB0.out.trans (hb.mono HB0.out.size)⟩; clear hc hk hw hS hb)
    | (go_at_call 26; refine (under_any HS1.out HE.out HV.out HR.out).mono ?_; rintro e w2 ⟨vp, vk, bs, Fs, rfl, hM⟩; have HM := Lib.hid hM; obtain ⟨ap, cp, rfl⟩ := own_form hM.ps; obtain ⟨ak, ck, rfl⟩ := own_form hM.ks; have HPL := Lib.hid hM.pends.len; have HBL : Hid (bs.length ≤ 1048576) := Lib.hid (by have := pickQ_length n ops; have := hM.pends.len; have := HOPS.out; omega); have hbn1 : ii.bytes * bs.length ≤ 281474976710656 := (by rw [hi2]; have := HBL.out; omega); have hbn2 : ir.bytes * bs.length ≤ 281474976710656 := (by rw [hrb2]; have := HBL.out; omega); have hmn : bs.length ≤ maxLen := (by unfold maxLen; have := HBL.out; omega); clear hM)
    | (go_at_call 20; refine (rall_n (n := n) HM.out.st.regs HM.out.st.len).mono ?_; rintro e w3 ⟨b3, rfl, hb3, hr3, hbl3⟩; have HB3 := Lib.hid hb3; have HR3 := Lib.hid hr3; have HBL3 := Lib.hid hbl3; clear hb3 hr3 hbl3)
    | (at_make; refine wpList_make_full _ rfl _ _ 23 rfl (w3.heap.size + 1) 3 ii (.int .i64 0) 1 Try.underlying23 hii hi0 hi1 .i64 .i64 (bs.length : Int) (bs.length : Int) bs.length rfl rfl rfl rfl hbn1 hmn (by simp) ?_; rw [World.size_alloc]; intro w4 hown hgr; have hr4 := row_of_full hown; rw [madeCells_one _ _ rfl] at hr4; have HF4 := Lib.hid hr4; have HB4 : Hid (Below (w3.heap.size + 1) (w3.alloc (.cells #[.slice (some ⟨b3, 0, none⟩) n n] 41)) w4) := Lib.hid ((Below.refl _ _).grown hgr (by simp) (by simp)); clear hown hgr hr4)
    | (at_make; refine wpList_make_full _ rfl _ _ 72 rfl w4.heap.size 41 ir (.slice none 0 0) 1 Try.underlying72 hir hr0 hr1 .i64 .i64 (bs.length : Int) (bs.length : Int) bs.length rfl rfl rfl rfl hbn2 hmn (Nat.le_refl _) ?_; intro w5 hown hgr; have hr5 := row_of_full hown; rw [madeCells_one _ _ rfl] at hr5; have HA5 := Lib.hid hr5; have HB5 : Hid (Below w4.heap.size w4 w5) := Lib.hid ((Below.refl _ _).grown hgr (Nat.le_refl _) (by simp)); clear hown hgr hr5))
  have HT0 := Lib.hid (true_begin HM.out H64.out HB3.out HR3.out HBL3.out HF4.out HB4.out HA5.out HB5.out)
  have HS0 : Hid (SeenQ n [List.replicate n 0] (List.replicate n 0) (pickQ n ops) (List.replicate bs.length 0) [] (List.replicate bs.length [])) := Lib.hid (by rw [HPL.out]; exact seen_begin H1.out)
  have HN := Lib.hid h64
  clear hir hii hr0 hr1 hi0 hi1 hi2 hbn1 hbn2 hmn HS1 HM HR HB3 HR3 HBL3 HF4 HB4 HA5 HB5
  go_loopw [11, 13, 15] (fun vm vf i wr => ∃ k : Nat, k ≤ xs.length ∧ i = .int .i64 k ∧ TrueAt W n br bk bw bs (.slice ap bs.length cp) (.slice ak bs.length ck) (w3.heap.size + 1) w4.heap.size k vm vf wr) (fun _ _ i _ => xs.length - (intOf i).toNat)
  case atStart => exact ⟨0, Nat.zero_le _, rfl, _, _, _, _, _, _, _, _, _, _, by simp, HS0.out, HT0.out⟩
  case round =>
    obtain ⟨k, hk, rfl, ws, os, Fs, hist, ms, first, avs, ah, fl, X, hhl, hS, hT⟩ := hrel
    obtain ⟨af, nf, cf, rfl⟩ := hT.fkept.form
    have HT := Lib.hid hT
    have HS := Lib.hid hS
    have HHL := Lib.hid hhl
    clear hT hS hhl HT0 HS0
    by_cases hlt : k < xs.length
    · obtain ⟨kk, hkk⟩ : ∃ kk, xs[k]? = some kk := ⟨xs[k], List.getElem?_eq_getElem hlt⟩
      obtain ⟨bx, ox, rfl, hbl, e0⟩ := (HXS.out.on HT.out.many.st.low) k kk hkk
      have hlto : (k : Int) < (xs.length : Int) := by omega
      clear hkk
      by_cases hin : 0 ≤ kk ∧ kk < (bs.length : Int)
      · obtain ⟨q, rfl⟩ := Int.eq_ofNat_of_zero_le hin.1
        have hqb : q < bs.length := by omega
        obtain ⟨o, b, F, gp, cp', gk, ck', ho, hb, hF, hq, hok, hvp, hvk, cc0, cc1, cc2, cc3, hgp, hgk⟩ := HT.out.many.get hqb
        cases hvp
        cases hvk
        have HO := Lib.hid ho
        have HB := Lib.hid hb
        have HF := Lib.hid hF
        have HQ := Lib.hid hq
        have HOK := Lib.hid hok
        have hq4 : q * 4 ≤ 52776558132480 := by have := HBL.out; omega
        have hqi : (q : Int) < (bs.length : Int) := hin.2
        clear ho hb hF hq hok hin cc1 cc2 cc3
        by_cases hph : o.ph = 2
        · have HD : Hid (decide (o.ph = 2) = true) := Lib.hid (decide_eq_true hph)
          clear hph
          go_wp2_with (go_at_call 16; refine (qdone_op HQ.out HOK.out HD.out).mono ?_; rintro e wx ⟨rfl, rfl⟩)
          go_roundw
          case rel => exact ⟨k + 1, by omega, by go_num, ws, os, Fs, hist, ms, first, avs, ah, fl, X, by have := HHL.out; omega, HS.out, HT.out⟩
          case measure => simp [intOf]; omega
        · have HD : Hid (decide (o.ph = 2) = false) := Lib.hid (decide_eq_false hph)
          have HPH := Lib.hid hph
          obtain ⟨f, hf⟩ : ∃ f, first[q]? = some f := ⟨_, List.getElem?_eq_getElem (by rw [HS.out.flen]; exact lt_of_get HO.out)⟩
          obtain ⟨a, ha⟩ : ∃ a, ah[q]? = some a := ⟨_, List.getElem?_eq_getElem (by rw [HS.out.alen]; exact lt_of_get HO.out)⟩
          obtain ⟨f', hf'⟩ : ∃ f', f' = if f = 0 then hist.length else f := ⟨_, rfl⟩
          obtain ⟨a', ha'⟩ : ∃ a', a' = if f = 0 then fl else a := ⟨_, rfl⟩
          obtain ⟨⟨d0, d1, d2, d3, d4⟩, hd⟩ : ∃ d, didQ ws o = d := ⟨_, rfl⟩
          obtain ⟨lb, hlb⟩ : ∃ lb, decide ((stepQ ws o).ph = 2) = lb := ⟨_, rfl⟩
          obtain ⟨m, hm⟩ : ∃ m, hist.length = m := ⟨_, rfl⟩
          have HL4 : Hid (hist.length < 4294967296) := Lib.hid (by have := HHL.out; omega)
          have HSN := Lib.hid (seen_step HS.out HOK.out HL4.out HO.out hf ha hf')
          rw [← ha'] at HSN
          have HFI := Lib.hid hf
          have HAI := Lib.hid ha
          have HFE := Lib.hid hf'
          have HAE := Lib.hid ha'
          have HDD := Lib.hid hd
          have HLB := Lib.hid hlb
          have HMM := Lib.hid hm
          have hmb : m ≤ 1048577 := by have := HHL.out; omega
          have H3 : Hid (m + 1 ≤ maxLen) := Lib.hid (by unfold maxLen; omega)
          have H4 : Hid ((m + 1) * 24 ≤ 140737488355328) := Lib.hid (by omega)
          clear hph hf ha hf' ha' hd hlb hm
          go_upto_if 94 with (first
            | (go_at_call 16; refine (qdone_op HQ.out HOK.out HD.out).mono ?_; rintro e wx ⟨rfl, rfl⟩)
            | (go_at_call 14; refine (true_step HT.out H64.out HO.out HB.out HF.out HQ.out HOK.out HDD.out HLB.out).mono ?_; rintro e w5 ⟨rfl, Fs', hT5⟩; have HT5 := Lib.hid (hT5.alloc (.cells #[.int .u8 d0, .int .i64 d1, .int .u64 d2, .int .u64 d3, .bool d4] 48)); clear hT5)
            | (go_at_call 20; refine (true_all HT5.out H64.out).mono ?_; rintro e w6 ⟨b6, rfl, hk6, hT6⟩; have HK6 := Lib.hid hk6; have HT6 := Lib.hid hT6; have H5 : Hid (W.heap.size ≤ (w6.alloc (.cells #[.slice (some ⟨b6, 0, none⟩) n n] 41)).heap.size) := Lib.hid (by have := hT6.many.st.low.size; simp; omega); clear hk6 hT6)
            | (at_builtin; refine wpList_append_lies _ rfl _ _ 72 rfl W.heap.size 41 ir (.slice none 0 0) 1 24 Try.underlying72 HIR.out HIR0.out HIR1.out HIR2.out rfl (by decide) _ m _ rfl ((HT6.out.msn HMM.out).alloc _) ⟨w6.heap.size, 0, none⟩ 1 1 [.slice (some ⟨b6, 0, none⟩) n n] rfl rfl (new_cells _ _ _) (one_sl _ _ _) (by omega) H3.out H4.out H5.out _ rfl ?_; intro g7 c7 w7 hown7 hgr7 hat7 _; have HT7 := Lib.hid (HT6.out.app HK6.out HMM.out hown7 hgr7 hat7); obtain ⟨f0, flt, ff⟩ := HT7.out.firsts HFI.out; clear hown7 hgr7 hat7))
          go_cut [] (fun wx => ∃ avs', TrueSt W n br bk bw (stepQW ws o) (os.set q (stepQ ws o)) bs Fs' (.slice (some ⟨gp, 0, none⟩) bs.length cp) (.slice (some ⟨gk, 0, none⟩) bs.length ck) (hist ++ [stepQW ws o]) (.slice (some ⟨g7, 0, none⟩) (m + 1) c7) (ms ++ [.slice (some ⟨b6, 0, none⟩) n n]) (w3.heap.size + 1) (first.set q f') w4.heap.size avs' (ah.set q a') (.slice af nf cf) fl (b6 :: X) wx)
          case first =>
            by_cases hf0 : f = 0
            · have hfb : ((f : Int) == 0) = true := by simp [hf0]
              have HFM : Hid (f' = m) := Lib.hid (by rw [HFE.out, if_pos hf0, HMM.out])
              have HAM : Hid (a' = fl) := Lib.hid (by rw [HAE.out, if_pos hf0])
              obtain ⟨va, _, ca, _, gal, gaf⟩ := HT7.out.aheads HAI.out
              obtain ⟨t1, t2⟩ := HT7.out.tables
              clear hf0
              go_wp2
              go_meet
              exact ⟨_, by rw [HFM.out, HAM.out]; exact (HT7.out.setFirst (q := q) (f := m)).setAhead (q := q)⟩
            · have hfb : ((f : Int) == 0) = false := by simp; omega
              have HFM : Hid (f' = f) := Lib.hid (by rw [HFE.out, if_neg hf0])
              have HAM : Hid (a' = a) := Lib.hid (by rw [HAE.out, if_neg hf0])
              clear hf0
              go_wp2
              go_meet
              exact ⟨avs, by rw [HFM.out, HAM.out, set_same HFI.out, set_same HAI.out]; exact HT7.out⟩
          case rest =>
            obtain ⟨avs', hT8⟩ := hcut
            have HT8 := Lib.hid hT8
            obtain ⟨y0, y3, ygk⟩ := hT8.kind' HO.out
            clear hT8 f0 flt ff
            by_cases hk3 : o.k = 3
            · have hkb : (o.k != 3) = false := by simp [hk3]
              have HK3 := Lib.hid hk3
              clear hk3
              cases lb with
              | false =>
                go_wp2
                go_roundw
                case rel => exact ⟨k + 1, by omega, by go_num, _, _, _, _, _, _, _, _, _, _, by have := HHL.out; simp; omega, HSN.out, HT8.out⟩
                case measure => simp [intOf]; omega
              | true =>
                have HP2 : Hid ((stepQ ws o).ph = 2) := Lib.hid (of_decide_eq_true HLB.out)
                have HSE := Lib.hid (seen_end HS.out HOK.out HL4.out HO.out HFI.out HAI.out HFE.out HK3.out (PendQ.phase HQ.out) HPH.out HP2.out)
                have HO2 : Hid ((os.set q (stepQ ws o))[q]? = some (stepQ ws o)) := Lib.hid (List.getElem?_set_self (lt_of_get HO.out))
                have HKS : Hid ((stepQ ws o).k = 3) := Lib.hid (by rw [(stepQ_same ws o).1]; exact HK3.out)
                obtain ⟨cl, hcl⟩ : ∃ cl, (stepQ ws o).cl = cl := ⟨_, rfl⟩
                obtain ⟨c, hc⟩ : ∃ c : Int, ((stepQ ws o).c : Int) = c := ⟨_, rfl⟩
                obtain ⟨xv, hxv⟩ : ∃ xv, (stepQ ws o).xs = xv := ⟨_, rfl⟩
                have HCL := Lib.hid hcl
                have HC := Lib.hid hc
                have HXV := Lib.hid hxv
                obtain ⟨z0, zlt⟩ := HT8.out.ptr HB.out
                clear hcl hc hxv
                go_upto_region 22 with fail
                go_cut [19] (fun s19 wx => ∃ b19 b8 c8, s19 = .pointer (some ⟨b19, 0, none⟩) ∧ Row wx b19 43 [.slice (some ⟨b8, 0, none⟩) n c8, .bool cl, .int .i64 c] ∧ KeptL W (b8 :: b6 :: X) n wx (.slice (some ⟨b8, 0, none⟩) n c8) xv ∧ TrueSt W n br bk bw (stepQW ws o) (os.set q (stepQ ws o)) bs Fs' (.slice (some ⟨gp, 0, none⟩) bs.length cp) (.slice (some ⟨gk, 0, none⟩) bs.length ck) (hist ++ [stepQW ws o]) (.slice (some ⟨g7, 0, none⟩) (m + 1) c7) (ms ++ [.slice (some ⟨b6, 0, none⟩) n n]) (w3.heap.size + 1) (first.set q f') w4.heap.size avs' (ah.set q a') (.slice af nf cf) fl (b8 :: b6 :: X) wx)
                case first =>
                  go_wp2_with (go_at_call 18; refine (true_answer HT8.out HO2.out HB.out HKS.out HP2.out HSE.out.1 HCL.out HC.out).mono ?_; rintro e w9 ⟨b8, c8, rfl, hk9, hT9⟩; rw [HXV.out] at hk9; have HK9 := Lib.hid (hk9.on ((Below.refl _ _).alloc (Nat.le_refl _) (.cells #[.slice (some ⟨b8, 0, none⟩) n c8, .bool cl, .int .i64 c] 43))); have HT9 := Lib.hid (hT9.alloc (.cells #[.slice (some ⟨b8, 0, none⟩) n c8, .bool cl, .int .i64 c] 43)); clear hk9 hT9)
                  go_meet
                  exact ⟨_, b8, c8, rfl, Row.new _ _ [.slice (some ⟨b8, 0, none⟩) n c8, .bool cl, .int .i64 c], HK9.out, HT9.out⟩
                case rest =>
                  obtain ⟨b19, b8, c8, rfl, hR9, hK9, hT9⟩ := hcut
                  have HR9 := Lib.hid hR9
                  have HK9 := Lib.hid hK9
                  have HT9 := Lib.hid hT9
                  obtain ⟨v0, v1, v2⟩ := hR9.three
                  have b19lt := hR9.lt
                  obtain ⟨j0, j3, jgk⟩ := hT9.kind' HO.out
                  clear hR9 hK9 hT9 y0 y3 ygk z0 zlt
                  cases cl with
                  | false =>
                    have hct : (c != o.t) = false := by have := HSE.out.2.1 HCL.out; rw [HC.out] at this; simp [this]
                    go_wp2
                    go_quiet (fail)
                    go_wp2
                    go_roundw
                    case rel => exact ⟨k + 1, by omega, by go_num, _, _, _, _, _, _, _, _, _, _, by have := HHL.out; simp; omega, HSN.out, HT9.out.drewN _⟩
                    case measure => simp [intOf]; omega
                  | true =>
                    obtain ⟨hc2, s, hs, hsx⟩ := HSE.out.2.2 HCL.out
                    rw [HXV.out] at hsx
                    have hcb : decide (c < 2) = false := by have := HC.out; simp; omega
                    have HSX := Lib.hid hsx
                    have HSF := Lib.hid hs
                    have hml : (hist ++ [stepQW ws o]).length = m + 1 := by simp [HMM.out]
                    have hfm : f' ≤ m + 1 := by have := lt_of_get hsx; rw [hml] at this; omega
                    have HML := Lib.hid hml
                    have HXN : Hid (xv.length = n) := Lib.hid (by have := HSE.out.1; rwa [HXV.out] at this)
                    have HF9 : Hid ((first.set q f')[q]? = some f') := Lib.hid (List.getElem?_set_self (lt_of_get HFI.out))
                    have HA9 : Hid ((ah.set q a')[q]? = some a') := Lib.hid (List.getElem?_set_self (lt_of_get HAI.out))
                    have HN6 : Hid (n ≤ 1000000) := Lib.hid (by omega)
                    obtain ⟨f9, f9lt, _⟩ := HT9.out.firsts HF9.out
                    clear hc2 hs hsx hml
                    go_wp2
                    go_loopw [20, 21] (fun fd i wr' => ∃ (j : Nat) (fb : Bool), f' ≤ j ∧ j ≤ m + 1 ∧ i = .int .i64 j ∧ fd = .bool fb ∧ (∀ r : Nat, f' ≤ r → r < j → (hist ++ [stepQW ws o])[r]? = some xv → fb = true) ∧ Row wr' b19 43 [.slice (some ⟨b8, 0, none⟩) n c8, .bool true, .int .i64 c] ∧ KeptL W (b8 :: b6 :: X) n wr' (.slice (some ⟨b8, 0, none⟩) n c8) xv ∧ TrueSt W n br bk bw (stepQW ws o) (os.set q (stepQ ws o)) bs Fs' (.slice (some ⟨gp, 0, none⟩) bs.length cp) (.slice (some ⟨gk, 0, none⟩) bs.length ck) (hist ++ [stepQW ws o]) (.slice (some ⟨g7, 0, none⟩) (m + 1) c7) (ms ++ [.slice (some ⟨b6, 0, none⟩) n n]) (w3.heap.size + 1) (first.set q f') w4.heap.size avs' (ah.set q a') (.slice af nf cf) fl (b8 :: b6 :: X) wr') (fun _ i _ => m + 1 - (intOf i).toNat)
                    case atStart => exact ⟨f', false, Nat.le_refl _, hfm, rfl, rfl, fun r h1 h2 => by omega, HR9.out, HK9.out, HT9.out⟩
                    case round =>
                      obtain ⟨j, fb, hj1, hj2, rfl, rfl, hall, hR, hK, hT⟩ := hrel
                      have HALL := Lib.hid hall
                      have HR := Lib.hid hR
                      have HK := Lib.hid hK
                      have HTT := Lib.hid hT
                      obtain ⟨x0, x1, x2⟩ := hR.three
                      have xlt := hR.lt
                      clear hall hR hK hT v0 v1 v2 b19lt j0 j3 jgk f9 f9lt
                      by_cases hjl : j < m + 1
                      · obtain ⟨h9, hx9⟩ : ∃ h9, (hist ++ [stepQW ws o])[j]? = some h9 := ⟨_, List.getElem?_eq_getElem (by rw [HML.out]; exact hjl)⟩
                        obtain ⟨bm, cm, cmom, lmom, gmlt⟩ := HTT.out.moment HML.out hx9
                        have HLM := Lib.hid lmom
                        have HX9 := Lib.hid hx9
                        have HLN : Hid (h9.length = n) := Lib.hid (HSN.out.lens h9 (List.mem_of_getElem? hx9))
                        have hji : (j : Int) < ((m + 1 : Nat) : Int) := by omega
                        have hji' : (j : Int) < (m : Int) + 1 := by omega
                        clear lmom hx9
                        cases fb with
                        | true =>
                          go_wp2
                          go_quiet (fail)
                          go_wp2
                          go_roundw
                          case rel => exact ⟨j + 1, true, by omega, by omega, by go_num, rfl, fun _ _ _ _ => rfl, HR.out, HK.out.on (Below.draws (Below.refl _ _) _), HTT.out.drewN _⟩
                          case measure => simp [intOf]; omega
                        | false =>
                          go_wp2
                          go_quiet ((go_at_call 19; exact Calls.quiet_of (dregs_any (HLM.out.drewN _) ((own_liesR HK.out.row).drewN _) HLN.out HXN.out HN6.out)))
                          go_wp2
                          go_roundw
                          case rel => exact ⟨j + 1, _, by omega, by omega, by go_num, rfl, fun r h1 h2 h3 => by (
                            by_cases e : r = j
                            · subst e
                              have := HX9.out
                              rw [h3] at this
                              cases this
                              simp
                            · exact absurd (HALL.out r h1 (by omega) h3) (by simp)), HR.out, HK.out.on (Below.draws (Below.refl _ _) _), HTT.out.drewN _⟩
                          case measure => simp [intOf]; omega
                      · have hjm : j = m + 1 := by omega
                        have HFB : Hid (fb = true) := Lib.hid (HALL.out s HSF.out (by have := lt_of_get HSX.out; rw [HML.out] at this; omega) HSX.out)
                        have hfb := HFB.out
                        subst hfb
                        subst hjm
                        have hjmf : ¬ ((m + 1 : Nat) : Int) < ((m + 1 : Nat) : Int) := by omega
                        obtain ⟨va, hva, ca, hka, gal, gaf⟩ := HTT.out.aheads HA9.out
                        have HKA := Lib.hid hka
                        have HRS : Hid (RiseQ a' xv) := Lib.hid (by
                          have hE := (HSN.out.each q _ f' a' HO2.out HF9.out HA9.out).ahead
                          rcases hE with e | ⟨m0, hm0, e⟩
                          · intro i x y hx; rw [e] at hx; simp at hx
                          · exact HSN.out.rise (by have := HSF.out; omega) e HSX.out)
                        have hn0 : decide ((0 : Int) < (n : Int)) = true := by have := H1.out; simp; omega
                        have hn2 : decide (0 < n) = true := by have := H1.out; simp; omega
                        have hn3 : 0 < n := by have := H1.out; omega
                        clear hva hka
                        go_upto_region 31 with fail
                        go_cut [175] (fun u wx => u = .bool false ∧ Row wx b19 43 [.slice (some ⟨b8, 0, none⟩) n c8, .bool true, .int .i64 c] ∧ KeptL W (b8 :: b6 :: X) n wx (.slice (some ⟨b8, 0, none⟩) n c8) xv ∧ TrueSt W n br bk bw (stepQW ws o) (os.set q (stepQ ws o)) bs Fs' (.slice (some ⟨gp, 0, none⟩) bs.length cp) (.slice (some ⟨gk, 0, none⟩) bs.length ck) (hist ++ [stepQW ws o]) (.slice (some ⟨g7, 0, none⟩) (m + 1) c7) (ms ++ [.slice (some ⟨b6, 0, none⟩) n n]) (w3.heap.size + 1) (first.set q f') w4.heap.size avs' (ah.set q a') (.slice af nf cf) fl (b8 :: b6 :: X) wx)
                        case first =>
                          rcases HKA.out with ⟨_, hva⟩ | hva
                          · subst hva
                            go_quiet (fail)
                            go_wp2
                            go_meet
                            exact ⟨rfl, HR.out, HK.out.on (Below.draws (Below.refl _ _) _), HTT.out.drewN _⟩
                          · obtain ⟨ba, caa, e, _⟩ := hva.form
                            subst e
                            have HVA := Lib.hid hva
                            clear hva
                            go_quiet ((go_at_call 27; exact Calls.quiet_of (rises_yes ((own_liesR HVA.out.row).drewN _) ((own_liesR HK.out.row).drewN _) HVA.out.len HXN.out HN6.out HRS.out)))
                            go_wp2
                            go_meet
                            exact ⟨rfl, HR.out, HK.out.on (Below.draws (Below.refl _ _) _), HTT.out.drewN _⟩
                        case rest =>
                          obtain ⟨rfl, hR, hK, hT⟩ := hcut
                          have HRX := Lib.hid hR
                          have HKX := Lib.hid hK
                          have HTX := Lib.hid hT
                          obtain ⟨p0, p1, p2⟩ := hR.three
                          have plt := hR.lt
                          have HFK := Lib.hid hT.fkept
                          clear hR hK hT x0 x1 x2 xlt ca gal gaf
                          rcases HFK.out with ⟨_, hvf⟩ | hvf
                          · cases hvf
                            go_wp2
                            go_roundw
                            case rel => exact ⟨k + 1, by omega, by go_num, _, _, _, _, _, _, _, _, _, _, by have := HHL.out; simp; omega, HSN.out.floorSet HSX.out, HTX.out.setFloor HKX.out⟩
                            case measure => simp [intOf]; omega
                          · obtain ⟨bf, cf', e, _⟩ := hvf.form
                            cases e
                            have HVF := Lib.hid hvf
                            have hn1 : ((n : Int) == 0) = false := by have := H1.out; simp; omega
                            clear hvf
                            go_wp2_with (go_at_call 27; refine (rises_any (own_liesR HVF.out.row) (own_liesR HKX.out.row) HVF.out.len HXN.out HN6.out).mono ?_; rintro e w12 ⟨r, rfl, _, md, rfl⟩)
                            all_goals
                              go_roundw
                              case rel => first | exact ⟨k + 1, by omega, by go_num, _, _, _, _, _, _, _, _, _, _, by have := HHL.out; simp; omega, HSN.out.floorSet HSX.out, (HTX.out.drewN _).setFloor (HKX.out.on (Below.draws (Below.refl _ _) _))⟩ | exact ⟨k + 1, by omega, by go_num, _, _, _, _, _, _, _, _, _, _, by have := HHL.out; simp; omega, HSN.out, HTX.out.drewN _⟩
                              case measure => simp [intOf]; omega
            · have hkb : (o.k != 3) = true := by simpa using hk3
              clear hk3
              go_wp2
              go_roundw
              case rel => exact ⟨k + 1, by omega, by go_num, _, _, _, _, _, _, _, _, _, _, by have := HHL.out; simp; omega, HSN.out, HT8.out⟩
              case measure => simp [intOf]; omega
      · rcases (show kk < 0 ∨ (0 ≤ kk ∧ (bs.length : Int) ≤ kk) by omega) with hneg | ⟨hpos, hge⟩
        · have hb1 : decide (kk < 0) = true := by simpa using hneg
          clear hin hneg
          go_wp2
          go_roundw
          case rel => exact ⟨k + 1, by omega, by go_num, ws, os, Fs, hist, ms, first, avs, ah, fl, X, by have := HHL.out; omega, HS.out, HT.out⟩
          case measure => simp [intOf]; omega
        · have hb1 : decide (kk < 0) = false := by simp; omega
          have hb2 : decide ((bs.length : Int) ≤ kk) = true := by simpa using hge
          clear hin hpos hge
          go_wp2
          go_roundw
          case rel => exact ⟨k + 1, by omega, by go_num, ws, os, Fs, hist, ms, first, avs, ah, fl, X, by have := HHL.out; omega, HS.out, HT.out⟩
          case measure => simp [intOf]; omega
    · obtain rfl : k = xs.length := by omega
      go_wp2
      go_ret
      exact ⟨rfl, HT.out.many.st.low⟩
end Go.Proofs.Ytdadgppbpomdoaa
