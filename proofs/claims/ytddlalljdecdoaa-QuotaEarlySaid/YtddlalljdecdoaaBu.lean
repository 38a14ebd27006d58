/- THE WALK of the law 'QuotaEarly'. -/
import Derived.Test.YtddlalljdecdoaaBt
namespace Go.Proofs.Ytddlalljdecdoaa
open Go Go.RowKit
set_option maxRecDepth 100000
set_option maxHeartbeats 1600000
theorem early_no {limit ba n : Int} (hf : ¬ FitsB limit ba n) {A B : Option Addr} {len cap len' cap' : Nat} (W : World) :
    Calls Try.prog 7 #[.int .i64 limit, .int .i64 ba, .int .i64 n, .slice A len cap, .slice B len' cap'] W fun e w' => e = .returned (.bool true) ∧ Below W.heap.size W w' := by
  have HF := Lib.hid hf
  clear hf
  go_enter Try.func7, Try.ntmps7
  go_wp2_with (first
    | (go_at_call 12; refine (begins_any _).mono ?_; rintro e w1 ⟨rfl, hb⟩; have HB := Lib.hid hb; clear hb)
    | (go_at_call 10; refine (qnew_no HF.out _).mono ?_; rintro e wx ⟨rfl, rfl⟩))
  go_ret
  exact ⟨rfl, HB.out⟩
/-- what the walk reads behind a step -/
theorem early_facts {W wr w5 : World} {bq bk bw n gn gt i b : Nat} {ba T limit : Int} {ws : List Int} {ss : List (Option (Nat × OpB))} {tb : List Bool} {o : OpB} {e : Ending} {kb : Bool} (h : EarlyB W bq bk bw ba n ws ss tb gn gt T limit wr) (hi : ss[i]? = some (some (b, o))) (hs : SteppedO wr bq bk bw b ba ws o e w5) (hk : (o.k == 1) = kb) :
    Row w5 b 75 (rowB bq (stepB ba ws o)) ∧ Row w5 gn 32 (ss.map ptrS) ∧ w5.cell? ⟨gn, i, none⟩ = some (.pointer (some ⟨b, 0, none⟩)) ∧ (∀ j, w5.frozen? ⟨gn, j, none⟩ = false) ∧ gn < w5.heap.size ∧ w5.cell? ⟨gt, i, none⟩ = some (.bool kb) ∧ gt < w5.heap.size ∧ ¬ gt = gn ∧ ¬ gn = gt ∧ ¬ gn = b ∧ ¬ b = gn := by
  obtain ⟨_, hq5, hr5, hp5⟩ := hs
  have hm := h.op i _ hi
  have nm : ∀ {x : Nat} {t : TypeId} {l : List Value}, Row wr x t l → t ≠ 87 → t ≠ 75 → x ∉ [bw, b] := fun hr h1 h2 => by simp; exact ⟨hr.ne h.one.quo.words.row h1, hr.ne hm.row h2⟩
  have hn5 := h.now.part hp5 (nm h.now (by decide) (by decide))
  have ht5 := h.tks.part hp5 (nm h.tks (by decide) (by decide))
  have tk := hm.tk
  dsimp only at tk
  rw [hk] at tk
  refine ⟨hr5, hn5, ?_, hn5.free, hn5.lt, ?_, ht5.lt, ht5.ne hn5 (by decide), hn5.ne ht5 (by decide), hn5.ne hr5 (by decide), hr5.ne hn5 (by decide)⟩
  · rw [hn5.cell, List.getElem?_map, hi]; rfl
  · rw [ht5.cell, List.getElem?_map, tk]; rfl
theorem early_T {W wr : World} {bq bk bw n gn gt : Nat} {ba T T' limit : Int} {ws : List Int} {ss : List (Option (Nat × OpB))} {tb : List Bool} (e : T' = T) (h : EarlyB W bq bk bw ba n ws ss tb gn gt T' limit wr) : EarlyB W bq bk bw ba n ws ss tb gn gt T limit wr := e ▸ h
theorem ptrs_same {ss : List (Option (Nat × OpB))} {i b : Nat} {o o' : OpB} (h : ss[i]? = some (some (b, o))) : (ss.map ptrS).set i (ptrS (some (b, o'))) = ss.map ptrS := by
  apply List.ext_getElem?
  intro j
  by_cases e : i = j
  · subst e
    rw [List.getElem?_set_self (by rw [List.length_map]; exact lt_of_get h), List.getElem?_map, h]
    rfl
  · rw [List.getElem?_set_ne e]
/-- a take is refused: what is left is with the workers -/
theorem early_ref {W wr : World} {bq bk bw n gn gt i b : Nat} {ba T limit : Int} {ws : List Int} {ss : List (Option (Nat × OpB))} {tb : List Bool} {o : OpB} (h : EarlyB W bq bk bw ba n ws ss tb gn gt T limit wr) (hi : ss[i]? = some (some (b, o))) (hk : o.k = 1) (h9 : (stepB ba ws o).ph = 9) (ha : (stepB ba ws o).ans = 0) : limit - T ≤ (n : Int) * ba := by
  have hm := h.op i _ hi
  have hok1 : OkB ws.length o := by rw [h.one.len]; exact hm.ok
  have hu := h.one.quo.words.ok
  have hba := h.one.quo.lowb
  obtain ⟨k, wk, ph, saw, hand, c, sum, ans⟩ := o
  dsimp only at hk
  subst hk
  have h0 : ws.getD 0 0 = 0 := by
    rcases hok1 with ⟨_, b1, hh⟩ | ⟨a1, _⟩ | ⟨a1, _⟩
    · dsimp only at hh
      have hl := hm.live
      dsimp only at hl
      rcases hh with hh | rfl | ⟨rfl, _⟩ | rfl | ⟨rfl, _⟩ | rfl
      · exact absurd hh hl
      · simp only [stepB] at h9; split at h9 <;> simp_all; (try split at h9) <;> simp_all
      · by_cases e : ws.getD (wk + 1) 0 = saw
        · unfold stepB at ha; rw [if_neg (by simp), if_pos rfl, if_neg (by simp), if_pos rfl, if_pos e] at ha; simp at ha
        · unfold stepB at h9; rw [if_neg (by simp), if_pos rfl, if_neg (by simp), if_pos rfl, if_neg e] at h9; simp at h9
      · by_cases e : 0 < ws.getD 0 0
        · unfold stepB at h9; rw [if_neg (by simp), if_pos rfl, if_neg (by simp), if_neg (by simp), if_pos rfl, if_pos e] at h9; simp at h9
        · have hz := (hu (ws.getD 0 0) (by
            have hlen := h.one.len
            rw [List.getD_eq_getElem?_getD, List.getElem?_eq_getElem (show 0 < ws.length by omega)]
            exact List.getElem_mem _)).1
          omega
      · by_cases e : ws.getD 0 0 = saw
        · by_cases e1 : min ba saw = 1
          · unfold stepB at ha; rw [if_neg (by simp), if_pos rfl, if_neg (by simp), if_neg (by simp), if_neg (by simp), if_pos rfl, if_pos e, if_pos e1] at ha; simp at ha
          · unfold stepB at h9; rw [if_neg (by simp), if_pos rfl, if_neg (by simp), if_neg (by simp), if_neg (by simp), if_pos rfl, if_pos e, if_neg e1] at h9; simp at h9
        · unfold stepB at h9; rw [if_neg (by simp), if_pos rfl, if_neg (by simp), if_neg (by simp), if_neg (by simp), if_pos rfl, if_neg e] at h9; simp at h9
      · simp [stepB] at ha
    · simp at a1
    · simp at a1
  exact h.refused h0
theorem early_start {W w : World} {bq bk bw n gn gt : Nat} {ba limit : Int} (h : OneB W bq bk bw ba n (startW limit n) w) (hg : Row w gn 32 (List.replicate n (.pointer none))) (ht : Row w gt 4 (List.replicate n (.bool false))) (h1 : W.heap.size ≤ gn) (h2 : W.heap.size ≤ gt) (hl : limit ≤ 1099511627776) (hb : 1 ≤ ba) :
    EarlyB W bq bk bw ba n (startW limit n) (List.replicate n none) (List.replicate n false) gn gt 0 limit w := by
  have sn : ∀ m : Nat, (List.replicate m (0 : Int)).sum = 0 := fun m => by
    induction m with
    | zero => rfl
    | succ m ih => rw [List.replicate_succ]; simp [ih]
  have no : ∀ (i : Nat) (p : Nat × OpB), ¬ (List.replicate n (none : Option (Nat × OpB)))[i]? = some (some p) := fun i p hp => by
    rw [List.getElem?_replicate] at hp
    split at hp
    · simp at hp
    · simp at hp
  refine ⟨h, by simpa [ptrS] using hg, by simpa using ht, by simp, by simp, fun i p hp => absurd hp (no i p), fun i j p q hp => absurd hp (no i p), fun i s hs => ?_, ?_, Int.le_refl _, hl, h1, h2⟩
  · rw [List.getElem?_replicate] at hs
    split at hs
    · simp at hs
      subst hs
      have e : (startW limit n).getD (i + 1) 0 = 0 := by
        simp only [startW, List.getD_eq_getElem?_getD, List.getElem?_cons_succ, List.getElem?_replicate]
        split <;> rfl
      rw [e]
      show (0 : Int) + 0 ≤ ba
      omega
    · simp at hs
  · have e2 : (List.replicate n (none : Option (Nat × OpB))).map handS = List.replicate n 0 := by simp [handS]
    rw [e2, sn]
    unfold startW
    rw [List.sum_cons, sn]
    omega
set_option maxHeartbeats 25600000
theorem early_yes {limit ba : Int} {n : Nat} (hf : FitsB limit ba (n : Int)) {A B : Option Addr} {cap cap' : Nat} {ks : List Bool} {xs : List Int} (W : World) (hE : ExtB W A ks) (hX : Ext .i64 W B xs) (hr' : xs.length * 8 ≤ 140737488351232) :
    Calls Try.prog 7 #[.int .i64 limit, .int .i64 ba, .int .i64 (n : Int), .slice A ks.length cap, .slice B xs.length cap'] W fun e w' => e = .returned (.bool true) ∧ Below W.heap.size W w' := by
  obtain ⟨ip, hip, hp0, hp1, hp2⟩ := info_parts infoP
  obtain ⟨it, hit, ht0, ht1, ht2⟩ := info_parts infoBool
  have HF := Lib.hid hf
  have HN : Hid (1 ≤ n ∧ n ≤ 64) := Lib.hid (by obtain ⟨_, _, _, _, h5, h6⟩ := hf; omega)
  have HLm : Hid (0 ≤ limit ∧ limit ≤ 1099511627776) := Lib.hid (by obtain ⟨h1, h2, _⟩ := hf; exact ⟨h1, h2⟩)
  have HBA : Hid (1 ≤ ba ∧ ba ≤ 1048576) := Lib.hid (by obtain ⟨_, _, h1, h2, _⟩ := hf; exact ⟨h1, h2⟩)
  have hmul0 : 0 ≤ (n : Int) * ba ∧ (n : Int) * ba ≤ 67108864 := by
    have h1 := HN.out; have h2 := HBA.out
    have h3 : (n : Int) * ba ≤ 64 * ba := Int.mul_le_mul_of_nonneg_right (by omega) (by omega)
    have h4 : 0 ≤ (n : Int) * ba := Int.mul_nonneg (by omega) (by omega)
    omega
  have hmul : IntKind.i64.wrap ((n : Int) * ba) = (n : Int) * ba := by rw [IntKind.wrap_i64]; omega
  have HMU := Lib.hid hmul0
  have HE := Lib.hid hE
  have HX := Lib.hid hX
  have hmb1 : ip.bytes * n ≤ 281474976710656 := by rw [hp2]; have := HN.out; omega
  have hmb2 : it.bytes * n ≤ 281474976710656 := by rw [ht2]; have := HN.out; omega
  have hmm : n ≤ maxLen := by have := HN.out; unfold maxLen; omega
  clear hf hE hX hmul0
  go_enter Try.func7, Try.ntmps7
  go_wp2_with (first
    | (go_at_call 12; refine (begins_any _).mono ?_; rintro e w0 ⟨rfl, hb⟩; have HB0 := Lib.hid hb; clear hb)
    | (go_at_call 10; refine (qnew_yes HF.out _).mono ?_; rintro e w1 ⟨bq, bk, bw, rfl, hc, hk, hw, hS, hb⟩; have HO1 := Lib.hid (OneB.start (n := n) HB0.out hw hS (by simp [startW]) hb); clear hc hk hw hS hb)
    | (at_make; refine wpList_make_full _ rfl _ _ 31 rfl W.heap.size 32 ip (.pointer none) 1 Try.underlying31 hip hp0 hp1 .i64 .i64 n n n rfl rfl rfl rfl hmb1 hmm HO1.out.low.size ?_; intro w2 hown hgr; have hrw := row_of_full hown; rw [made_one _ rfl] at hrw; have HR2 := Lib.hid hrw; have HO2 := Lib.hid (HO1.out.on ((Below.refl _ _).grown hgr (Nat.le_refl _) (by simp))); clear hown hgr hrw)
    | (at_make; refine wpList_make_full _ rfl _ _ 63 rfl W.heap.size 4 it (.bool false) 1 Try.underlying63 hit ht0 ht1 .i64 .i64 n n n rfl rfl rfl rfl hmb2 hmm HO2.out.low.size ?_; intro w3 hown hgr; have hrw := row_of_full hown; rw [made_one _ rfl] at hrw; have hb3 : Below w2.heap.size w2 w3 := (Below.refl _ _).grown hgr (Nat.le_refl _) (by simp); have HA3 : Hid (EarlyB W bq bk bw ba n (startW limit n) (List.replicate n none) (List.replicate n false) w1.heap.size w2.heap.size 0 limit w3) := Lib.hid (early_start (HO2.out.on hb3) (HR2.out.below hb3 HR2.out.lt) hrw HO1.out.low.size HO2.out.low.size HLm.out.2 HBA.out.1); clear hown hgr hrw hb3))
  have hxl : xs.length ≤ 17592186044160 := by omega
  obtain ⟨gn, hgn⟩ : ∃ g, w1.heap.size = g := ⟨_, rfl⟩
  obtain ⟨gt, hgt⟩ : ∃ g, w2.heap.size = g := ⟨_, rfl⟩
  rw [hgn, hgt] at HA3
  rw [hgn, hgt]
  clear hgn hgt HR2 HO2
  go_loopw [15, 16, 17] (fun nx t u wr => ∃ j : Nat, j ≤ xs.length ∧ u = .int .i64 j ∧ ∃ (m : Nat) (T : Int) (ws : List Int) (ss : List (Option (Nat × OpB))) (tb : List Bool), nx = .int .i64 m ∧ m ≤ j ∧ t = .int .i64 T ∧ EarlyB W bq bk bw ba n ws ss tb gn gt T limit wr) (fun _ _ u _ => xs.length - (intOf u).toNat)
  case atStart => exact ⟨0, Nat.zero_le _, rfl, 0, 0, _, _, _, rfl, Nat.le_refl _, rfl, HA3.out⟩
  case round =>
    obtain ⟨j, hj, rfl, m, T, ws, ss, tb, rfl, hmj, rfl, hC⟩ := hrel
    have HC := Lib.hid hC
    have hTb := hC.bounds
    have hTp := hC.pos
    have HTB : Hid (0 ≤ T ∧ T ≤ limit) := Lib.hid ⟨hTp, hTb.2.2⟩
    have hadd : IntKind.i64.wrap (T + 1) = T + 1 := by have := HLm.out; rw [IntKind.wrap_i64]; omega
    have hadd0 : IntKind.i64.wrap T = T := by have := HLm.out; rw [IntKind.wrap_i64]; omega
    clear hC HA3 hTb hTp
    by_cases hlt : j < xs.length
    · obtain ⟨k, hk⟩ : ∃ k, xs[j]? = some k := ⟨xs[j], List.getElem?_eq_getElem hlt⟩
      obtain ⟨b', o', rfl, hlt', q0⟩ := (HX.out.on HC.out.one.low) j _ hk
      have hlt2 : (j : Int) < (xs.length : Int) := by omega
      clear hk
      by_cases hk0 : k < 0
      · have hd : decide (k < 0) = true := by simpa using hk0
        go_wp2
        go_roundw
        case rel => exact ⟨j + 1, by omega, by go_num, m, T, ws, ss, tb, rfl, by omega, rfl, HC.out⟩
        case measure => simp [intOf]; omega
      have hd0 : decide (k < 0) = false := by simpa using hk0
      by_cases hkn : (n : Int) ≤ k
      · have hd : decide ((n : Int) ≤ k) = true := by simpa using hkn
        go_wp2
        go_roundw
        case rel => exact ⟨j + 1, by omega, by go_num, m, T, ws, ss, tb, rfl, by omega, rfl, HC.out⟩
        case measure => simp [intOf]; omega
      obtain ⟨q, rfl⟩ := Int.eq_ofNat_of_zero_le (show 0 ≤ k by omega)
      have hd1 : decide ((n : Int) ≤ (q : Int)) = false := by simp; omega
      have hqn : q < n := by omega
      have hq2 : (q : Int) < (n : Int) := by omega
      have hnl := HC.out.now.lt
      have htl := HC.out.tks.lt
      obtain ⟨s, hs⟩ : ∃ s, ss[q]? = some s := ⟨_, List.getElem?_eq_getElem (by rw [HC.out.slen]; exact hqn)⟩
      have nc0 : wr.cell? ⟨gn, q, none⟩ = some (ptrS s) := by rw [HC.out.now.cell, List.getElem?_map, hs]; rfl
      have hmi : (m : Int) ≤ 9223372036854775000 := by omega
      have haddm : IntKind.i64.wrap ((m : Int) + 1) = ((m + 1 : Nat) : Int) := by rw [IntKind.wrap_i64]; omega
      cases s with
      | some p =>
        obtain ⟨b, o⟩ := p
        have nc1 : wr.cell? ⟨gn, q, none⟩ = some (.pointer (some ⟨b, 0, none⟩)) := nc0
        have HSq := Lib.hid hs
        have HEe := HC
        have hmi0 := HC.out.op q _ hs
        have HKK := Lib.hid hmi0.kk
        clear nc0 hs hmi0
        have hrq : Row _ b 75 (rowB bq o) := (HEe.out.op q _ HSq.out).row
        have hokq : OkB ws.length o := by rw [HEe.out.one.len]; exact (HEe.out.op q _ HSq.out).ok
        have HRq := Lib.hid hrq
        have HOKq := Lib.hid hokq
        clear hrq hokq
        obtain ⟨⟨x0, x1, x2, x3, x4⟩, hdid⟩ : ∃ d, didB ba ws o = d := ⟨_, rfl⟩
        have HDID := Lib.hid hdid
        clear hdid
        by_cases hp9 : (stepB ba ws o).ph = 9
        · by_cases hk1 : o.k = 1
          · have hst := (stepB_same ba ws o).1
            have hho' := HandOk.step (by rw [HC.out.one.len]; exact (HC.out.op q _ HSq.out).ok) (HC.out.op q _ HSq.out).live (HC.out.op q _ HSq.out).hand HC.out.one.quo.words.ok HC.out.one.quo.lowb
            rcases hho'.2.2 (hst.trans hk1) hp9 with hans | hans
            · clear hst hho'
              have hT4 : limit - T ≤ (n : Int) * ba := early_ref HC.out HSq.out hk1 hp9 hans
              have HLA : Hid (decide ((stepB ba ws o).ph = 9) = true) := Lib.hid (by simpa using hp9)
              have HKB : Hid ((o.k == 1) = true) := Lib.hid (by simpa using hk1)
              have HAN := Lib.hid hans
              have HP9 := Lib.hid hp9
              have HK1 := Lib.hid hk1
              clear hp9 hk1 hans
              have hd4 : decide ((n : Int) * ba < limit - T) = false := by simpa using hT4
              have hsub : IntKind.i64.wrap (limit - T) = limit - T := by have := HTB.out; have := HLm.out; rw [IntKind.wrap_i64]; omega
              clear hT4
              go_wp2_with (first
                | (go_at_call 16; (with_reducible refine (bstep_op HEe.out.one.quo HRq.out HOKq.out).mono ?_); intro e w7 hs; have HS := Lib.hid hs; have he := hs.1; subst he; rw [HDID.out, HLA.out, didV_five']; obtain ⟨hr7, hn7, nc7, nf7, nl7, tc7, tl7, m1, m2, m3, m4⟩ := early_facts HEe.out HSq.out hs HKB.out; have HR7 := Lib.hid hr7; have HN7 := Lib.hid hn7; have M3 := Lib.hid m3; have m5 : ¬ gn = w7.heap.size := (by omega); have m6 : ¬ w7.heap.size = gn := (by omega); clear hs hr7 hn7)
                | (go_at_call 19; (refine (banswer_op (bq := bq) (o := stepB ba ws o) ?hrow).mono ?_); (case hrow => repeat (first | (with_reducible exact HR7.out) | (with_reducible refine Row.far ?_ M3.out _) | (with_reducible refine Row.alloc ?_ _) | (with_reducible refine Row.drew ?_))); rw [HAN.out]; rintro e wx ⟨rfl, rfl⟩))
              go_roundw
              case rel => exact ⟨j + 1, by omega, by go_num, m, T, _, _, _, rfl, by omega, rfl, early_T (by rw [show takenC (stepB ba ws o) = 0 from by unfold takenC; rw [if_pos ((stepB_same ba ws o).1.trans HK1.out), if_pos HP9.out, HAN.out]]; try omega) (HEe.out.step HSq.out HS.out (Row.of_eq (l := ((ss).map ptrS).set q (.pointer none)) (by repeat (first | (with_reducible exact HN7.out) | (with_reducible refine Row.set ?_ _ _) | (with_reducible refine Row.alloc ?_ _) | (with_reducible refine Row.drew ?_))) (by rw [show goesOn b (stepB ba ws o) = none from by unfold goesOn; rw [if_pos HP9.out]]; rfl)) (by repeat (first | (with_reducible exact Part.refl _ _) | refine Part.set ?_ (by simp) _ | (with_reducible refine Part.alloc ?_ _) | (with_reducible refine Part.drew ?_)))).1⟩
              case measure => simp [intOf]; omega
            · clear hst hho'
              have HLA : Hid (decide ((stepB ba ws o).ph = 9) = true) := Lib.hid (by simpa using hp9)
              have HKB : Hid ((o.k == 1) = true) := Lib.hid (by simpa using hk1)
              have HAN := Lib.hid hans
              have HP9 := Lib.hid hp9
              have HK1 := Lib.hid hk1
              clear hp9 hk1 hans
              go_wp2_with (first
                | (go_at_call 16; (with_reducible refine (bstep_op HEe.out.one.quo HRq.out HOKq.out).mono ?_); intro e w7 hs; have HS := Lib.hid hs; have he := hs.1; subst he; rw [HDID.out, HLA.out, didV_five']; obtain ⟨hr7, hn7, nc7, nf7, nl7, tc7, tl7, m1, m2, m3, m4⟩ := early_facts HEe.out HSq.out hs HKB.out; have HR7 := Lib.hid hr7; have HN7 := Lib.hid hn7; have M3 := Lib.hid m3; have m5 : ¬ gn = w7.heap.size := (by omega); have m6 : ¬ w7.heap.size = gn := (by omega); clear hs hr7 hn7)
                | (go_at_call 19; (refine (banswer_op (bq := bq) (o := stepB ba ws o) ?hrow).mono ?_); (case hrow => repeat (first | (with_reducible exact HR7.out) | (with_reducible refine Row.far ?_ M3.out _) | (with_reducible refine Row.alloc ?_ _) | (with_reducible refine Row.drew ?_))); rw [HAN.out]; rintro e wx ⟨rfl, rfl⟩))
              go_roundw
              case rel => exact ⟨j + 1, by omega, by go_num, m, T + 1, _, _, _, rfl, by omega, rfl, early_T (by rw [show takenC (stepB ba ws o) = 1 from by unfold takenC; rw [if_pos ((stepB_same ba ws o).1.trans HK1.out), if_pos HP9.out, HAN.out]]; try omega) (HEe.out.step HSq.out HS.out (Row.of_eq (l := ((ss).map ptrS).set q (.pointer none)) (by repeat (first | (with_reducible exact HN7.out) | (with_reducible refine Row.set ?_ _ _) | (with_reducible refine Row.alloc ?_ _) | (with_reducible refine Row.drew ?_))) (by rw [show goesOn b (stepB ba ws o) = none from by unfold goesOn; rw [if_pos HP9.out]]; rfl)) (by repeat (first | (with_reducible exact Part.refl _ _) | refine Part.set ?_ (by simp) _ | (with_reducible refine Part.alloc ?_ _) | (with_reducible refine Part.drew ?_)))).1⟩
              case measure => simp [intOf]; omega
          · skip
            have HLA : Hid (decide ((stepB ba ws o).ph = 9) = true) := Lib.hid (by simpa using hp9)
            have HKB : Hid ((o.k == 1) = false) := Lib.hid (by simpa using hk1)
            have HP9 := Lib.hid hp9
            have HK1 := Lib.hid hk1
            clear hp9 hk1
            go_wp2_with (first
              | (go_at_call 16; (with_reducible refine (bstep_op HEe.out.one.quo HRq.out HOKq.out).mono ?_); intro e w7 hs; have HS := Lib.hid hs; have he := hs.1; subst he; rw [HDID.out, HLA.out, didV_five']; obtain ⟨hr7, hn7, nc7, nf7, nl7, tc7, tl7, m1, m2, m3, m4⟩ := early_facts HEe.out HSq.out hs HKB.out; have HR7 := Lib.hid hr7; have HN7 := Lib.hid hn7; have M3 := Lib.hid m3; have m5 : ¬ gn = w7.heap.size := (by omega); have m6 : ¬ w7.heap.size = gn := (by omega); clear hs hr7 hn7)
              | (go_at_call 19; (refine (banswer_op (bq := bq) (o := stepB ba ws o) ?hrow).mono ?_); (case hrow => repeat (first | (with_reducible exact HR7.out) | (with_reducible refine Row.far ?_ M3.out _) | (with_reducible refine Row.alloc ?_ _) | (with_reducible refine Row.drew ?_))); rintro e wx ⟨rfl, rfl⟩))
            go_roundw
            case rel => exact ⟨j + 1, by omega, by go_num, m, T, _, _, _, rfl, by omega, rfl, early_T (by rw [show takenC (stepB ba ws o) = 0 from by unfold takenC; rw [if_neg (by rw [(stepB_same ba ws o).1]; exact HK1.out)]]; try omega) (HEe.out.step HSq.out HS.out (Row.of_eq (l := ((ss).map ptrS).set q (.pointer none)) (by repeat (first | (with_reducible exact HN7.out) | (with_reducible refine Row.set ?_ _ _) | (with_reducible refine Row.alloc ?_ _) | (with_reducible refine Row.drew ?_))) (by rw [show goesOn b (stepB ba ws o) = none from by unfold goesOn; rw [if_pos HP9.out]]; rfl)) (by repeat (first | (with_reducible exact Part.refl _ _) | refine Part.set ?_ (by simp) _ | (with_reducible refine Part.alloc ?_ _) | (with_reducible refine Part.drew ?_)))).1⟩
            case measure => simp [intOf]; omega
        · skip
          have HLA : Hid (decide ((stepB ba ws o).ph = 9) = false) := Lib.hid (by simpa using hp9)
          obtain ⟨kbv, hkbv⟩ : ∃ x, (o.k == 1) = x := ⟨_, rfl⟩
          have HKB := Lib.hid hkbv
          clear hkbv
          have HP9 := Lib.hid hp9
          clear hp9
          go_wp2_with (first
            | (go_at_call 16; (with_reducible refine (bstep_op HEe.out.one.quo HRq.out HOKq.out).mono ?_); intro e w7 hs; have HS := Lib.hid hs; have he := hs.1; subst he; rw [HDID.out, HLA.out, didV_five']; obtain ⟨hr7, hn7, nc7, nf7, nl7, tc7, tl7, m1, m2, m3, m4⟩ := early_facts HEe.out HSq.out hs HKB.out; have HR7 := Lib.hid hr7; have HN7 := Lib.hid hn7; have M3 := Lib.hid m3; have m5 : ¬ gn = w7.heap.size := (by omega); have m6 : ¬ w7.heap.size = gn := (by omega); clear hs hr7 hn7))
          go_roundw
          case rel => exact ⟨j + 1, by omega, by go_num, m, T, _, _, _, rfl, by omega, rfl, early_T (by rw [show takenC (stepB ba ws o) = 0 from by unfold takenC; split <;> simp [HP9.out]]; try omega) (HEe.out.step HSq.out HS.out (Row.of_eq (l := (ss).map ptrS) (by repeat (first | (with_reducible exact HN7.out) | (with_reducible refine Row.alloc ?_ _) | (with_reducible refine Row.drew ?_))) (by rw [show goesOn b (stepB ba ws o) = (some (b, stepB ba ws o)) from by unfold goesOn; rw [if_neg HP9.out]]; exact (ptrs_same HSq.out).symm)) (by repeat (first | (with_reducible exact Part.refl _ _) | refine Part.set ?_ (by simp) _ | (with_reducible refine Part.alloc ?_ _) | (with_reducible refine Part.drew ?_)))).1⟩
          case measure => simp [intOf]; omega
      | none =>
        have nc1 : wr.cell? ⟨gn, q, none⟩ = some (.pointer none) := nc0
        have HSn := Lib.hid hs
        clear nc0 hs
        have hml : (m : Int) < (ks.length : Int) ∨ ¬ (m : Int) < (ks.length : Int) := Decidable.em _
        rcases hml with hml | hml
        · have hdm : decide ((m : Int) < (ks.length : Int)) = true := by simpa using hml
          obtain ⟨kd, hkd⟩ : ∃ kd, ks[m]? = some kd := ⟨_, List.getElem?_eq_getElem (by omega)⟩
          have hEm := HE.out.on HC.out.one.low
          obtain ⟨bb, ob, rfl, hbl, kc0⟩ := hEm m _ hkd
          clear hEm hkd
          cases kd with
          | false =>
            go_upto_region 25 with (go_at_call 13; go_loud ((refine (bstart_1 (HC.out.one.quo.alloc _) HC.out.one.len hqn).mono ?_); rintro e w5 ⟨bp, rfl, hn5, hr5, hb5⟩; have hb5' : Below wr.heap.size wr w5 := ((Below.refl _ _).alloc (Nat.le_refl _) _).trans (hb5.mono (by simp)); have h5 := HC.out.on hb5'; have HN5 := Lib.hid h5.now; have HT5 := Lib.hid h5.tks; have HB5 := Lib.hid hb5'; have HR5 := Lib.hid hr5; have HL5 : Hid (wr.heap.size ≤ bp) := Lib.hid (by simp at hn5; omega); have hbox : Row w5 wr.heap.size 37 [.int .u8 1, .int .i64 (q : Int)] := (Row.new wr _ _).below hb5 (by simp); have bx0 : w5.cell? ⟨wr.heap.size, 0, none⟩ = some (.int .u8 1) := hbox.cell 0; have nc5 : w5.cell? ⟨gn, q, none⟩ = some (.pointer none) := (hb5'.cell (p := ⟨gn, q, none⟩) hnl).trans nc1; have tc5 : ∃ y, w5.cell? ⟨gt, q, none⟩ = some (.bool y) := ⟨tb[q]'(by rw [HC.out.tlen]; exact hqn), by rw [h5.tks.cell, List.getElem?_map, List.getElem?_eq_getElem (by rw [HC.out.tlen]; exact hqn)]; try rfl⟩; obtain ⟨y5, tc5⟩ := tc5; have nf5 := h5.now.free; have tf5 := h5.tks.free; have nl5 := h5.now.lt; have tl5 := h5.tks.lt; have m7 : ¬ gn = gt := h5.now.ne h5.tks (by decide); have m8 : ¬ gt = gn := fun e => m7 e.symm; have m9 : ¬ gn = wr.heap.size := (by omega); have m10 : ¬ wr.heap.size = gn := (by omega); have m11 : ¬ gt = wr.heap.size := (by omega); have m12 : ¬ wr.heap.size = gt := (by omega); clear hn5 hr5 hb5 hb5' h5 hbox))
            have HEe : Hid (EarlyB W bq bk bw ba n ws (ss.set q (some (bp, newB 1 q))) (tb.set q (1 == 1)) gn gt T limit ((w5.setCell ⟨gn, q, none⟩ (.pointer (some ⟨bp, 0, none⟩))).setCell ⟨gt, q, none⟩ (.bool true))) := Lib.hid (HC.out.begin_ (k := 1) HSn.out (by omega) HB5.out HR5.out HL5.out ((HN5.out.set q _).far (fun e => m7 e.symm) _) ((HT5.out.far (fun e => m7 e) _).set q _) (((Part.refl [gn, gt] _).set (by simp) _).set (by simp) _))
            have HSq : Hid ((ss.set q (some (bp, newB 1 q)))[q]? = some (some (bp, newB 1 q))) := Lib.hid (List.getElem?_set_self (lt_of_get HSn.out))
            clear nc1 hnl htl bx0 m9 m10 m11 m12
            have hrq : Row _ bp 75 (rowB bq (newB 1 q)) := (HEe.out.op q _ HSq.out).row
            have hokq : OkB ws.length (newB 1 q) := by rw [HEe.out.one.len]; exact (HEe.out.op q _ HSq.out).ok
            have HRq := Lib.hid hrq
            have HOKq := Lib.hid hokq
            clear hrq hokq
            obtain ⟨⟨x0, x1, x2, x3, x4⟩, hdid⟩ : ∃ d, didB ba ws (newB 1 q) = d := ⟨_, rfl⟩
            have HDID := Lib.hid hdid
            clear hdid
            have hp9 : ¬ (stepB ba ws (newB 1 q)).ph = 9 := by simp only [stepB, newB]; split <;> simp_all; (try split) <;> simp
            have HLA : Hid (decide ((stepB ba ws (newB 1 q)).ph = 9) = false) := Lib.hid (by simpa using hp9)
            obtain ⟨kbv, hkbv⟩ : ∃ x, ((newB 1 q).k == 1) = x := ⟨_, rfl⟩
            have HKB := Lib.hid hkbv
            clear hkbv
            have HP9 := Lib.hid hp9
            clear hp9
            go_wp2_with (first
              | (go_at_call 16; (with_reducible refine (bstep_op HEe.out.one.quo HRq.out HOKq.out).mono ?_); intro e w7 hs; have HS := Lib.hid hs; have he := hs.1; subst he; rw [HDID.out, HLA.out, didV_five']; obtain ⟨hr7, hn7, nc7, nf7, nl7, tc7, tl7, m1, m2, m3, m4⟩ := early_facts HEe.out HSq.out hs HKB.out; have HR7 := Lib.hid hr7; have HN7 := Lib.hid hn7; have M3 := Lib.hid m3; have m5 : ¬ gn = w7.heap.size := (by omega); have m6 : ¬ w7.heap.size = gn := (by omega); clear hs hr7 hn7))
            go_roundw
            case rel => exact ⟨j + 1, by omega, by go_num, m + 1, T, _, _, _, rfl, by omega, rfl, early_T (by rw [show takenC (stepB ba ws (newB 1 q)) = 0 from by unfold takenC; split <;> simp [HP9.out]]; try omega) (HEe.out.step HSq.out HS.out (Row.of_eq (l := (ss.set q (some (bp, newB 1 q))).map ptrS) (by repeat (first | (with_reducible exact HN7.out) | (with_reducible refine Row.alloc ?_ _) | (with_reducible refine Row.drew ?_))) (by rw [show goesOn bp (stepB ba ws (newB 1 q)) = (some (bp, stepB ba ws (newB 1 q))) from by unfold goesOn; rw [if_neg HP9.out]]; exact (ptrs_same HSq.out).symm)) (by repeat (first | (with_reducible exact Part.refl _ _) | refine Part.set ?_ (by simp) _ | (with_reducible refine Part.alloc ?_ _) | (with_reducible refine Part.drew ?_)))).1⟩
            case measure => simp [intOf]; omega
          | true =>
            go_upto_region 25 with (go_at_call 13; go_loud ((refine (bstart_2 (HC.out.one.quo.alloc _) HC.out.one.len hqn).mono ?_); rintro e w5 ⟨bp, rfl, hn5, hr5, hb5⟩; have hb5' : Below wr.heap.size wr w5 := ((Below.refl _ _).alloc (Nat.le_refl _) _).trans (hb5.mono (by simp)); have h5 := HC.out.on hb5'; have HN5 := Lib.hid h5.now; have HT5 := Lib.hid h5.tks; have HB5 := Lib.hid hb5'; have HR5 := Lib.hid hr5; have HL5 : Hid (wr.heap.size ≤ bp) := Lib.hid (by simp at hn5; omega); have hbox : Row w5 wr.heap.size 37 [.int .u8 2, .int .i64 (q : Int)] := (Row.new wr _ _).below hb5 (by simp); have bx0 : w5.cell? ⟨wr.heap.size, 0, none⟩ = some (.int .u8 2) := hbox.cell 0; have nc5 : w5.cell? ⟨gn, q, none⟩ = some (.pointer none) := (hb5'.cell (p := ⟨gn, q, none⟩) hnl).trans nc1; have tc5 : ∃ y, w5.cell? ⟨gt, q, none⟩ = some (.bool y) := ⟨tb[q]'(by rw [HC.out.tlen]; exact hqn), by rw [h5.tks.cell, List.getElem?_map, List.getElem?_eq_getElem (by rw [HC.out.tlen]; exact hqn)]; try rfl⟩; obtain ⟨y5, tc5⟩ := tc5; have nf5 := h5.now.free; have tf5 := h5.tks.free; have nl5 := h5.now.lt; have tl5 := h5.tks.lt; have m7 : ¬ gn = gt := h5.now.ne h5.tks (by decide); have m8 : ¬ gt = gn := fun e => m7 e.symm; have m9 : ¬ gn = wr.heap.size := (by omega); have m10 : ¬ wr.heap.size = gn := (by omega); have m11 : ¬ gt = wr.heap.size := (by omega); have m12 : ¬ wr.heap.size = gt := (by omega); clear hn5 hr5 hb5 hb5' h5 hbox))
            have HEe : Hid (EarlyB W bq bk bw ba n ws (ss.set q (some (bp, newB 2 q))) (tb.set q (2 == 1)) gn gt T limit ((w5.setCell ⟨gn, q, none⟩ (.pointer (some ⟨bp, 0, none⟩))).setCell ⟨gt, q, none⟩ (.bool false))) := Lib.hid (HC.out.begin_ (k := 2) HSn.out (by omega) HB5.out HR5.out HL5.out ((HN5.out.set q _).far (fun e => m7 e.symm) _) ((HT5.out.far (fun e => m7 e) _).set q _) (((Part.refl [gn, gt] _).set (by simp) _).set (by simp) _))
            have HSq : Hid ((ss.set q (some (bp, newB 2 q)))[q]? = some (some (bp, newB 2 q))) := Lib.hid (List.getElem?_set_self (lt_of_get HSn.out))
            clear nc1 hnl htl bx0 m9 m10 m11 m12
            have hrq : Row _ bp 75 (rowB bq (newB 2 q)) := (HEe.out.op q _ HSq.out).row
            have hokq : OkB ws.length (newB 2 q) := by rw [HEe.out.one.len]; exact (HEe.out.op q _ HSq.out).ok
            have HRq := Lib.hid hrq
            have HOKq := Lib.hid hokq
            clear hrq hokq
            obtain ⟨⟨x0, x1, x2, x3, x4⟩, hdid⟩ : ∃ d, didB ba ws (newB 2 q) = d := ⟨_, rfl⟩
            have HDID := Lib.hid hdid
            clear hdid
            by_cases hp9 : (stepB ba ws (newB 2 q)).ph = 9
            · have hk1 : ¬ (newB 2 q).k = 1 := by simp [newB]
              have HLA : Hid (decide ((stepB ba ws (newB 2 q)).ph = 9) = true) := Lib.hid (by simpa using hp9)
              have HKB : Hid (((newB 2 q).k == 1) = false) := Lib.hid (by simpa using hk1)
              have HP9 := Lib.hid hp9
              have HK1 := Lib.hid hk1
              clear hp9 hk1
              go_wp2_with (first
                | (go_at_call 16; (with_reducible refine (bstep_op HEe.out.one.quo HRq.out HOKq.out).mono ?_); intro e w7 hs; have HS := Lib.hid hs; have he := hs.1; subst he; rw [HDID.out, HLA.out, didV_five']; obtain ⟨hr7, hn7, nc7, nf7, nl7, tc7, tl7, m1, m2, m3, m4⟩ := early_facts HEe.out HSq.out hs HKB.out; have HR7 := Lib.hid hr7; have HN7 := Lib.hid hn7; have M3 := Lib.hid m3; have m5 : ¬ gn = w7.heap.size := (by omega); have m6 : ¬ w7.heap.size = gn := (by omega); clear hs hr7 hn7)
                | (go_at_call 19; (refine (banswer_op (bq := bq) (o := stepB ba ws (newB 2 q)) ?hrow).mono ?_); (case hrow => repeat (first | (with_reducible exact HR7.out) | (with_reducible refine Row.far ?_ M3.out _) | (with_reducible refine Row.alloc ?_ _) | (with_reducible refine Row.drew ?_))); rintro e wx ⟨rfl, rfl⟩))
              go_roundw
              case rel => exact ⟨j + 1, by omega, by go_num, m + 1, T, _, _, _, rfl, by omega, rfl, early_T (by rw [show takenC (stepB ba ws (newB 2 q)) = 0 from by unfold takenC; rw [if_neg (by rw [(stepB_same ba ws (newB 2 q)).1]; exact HK1.out)]]; try omega) (HEe.out.step HSq.out HS.out (Row.of_eq (l := ((ss.set q (some (bp, newB 2 q))).map ptrS).set q (.pointer none)) (by repeat (first | (with_reducible exact HN7.out) | (with_reducible refine Row.set ?_ _ _) | (with_reducible refine Row.alloc ?_ _) | (with_reducible refine Row.drew ?_))) (by rw [show goesOn bp (stepB ba ws (newB 2 q)) = none from by unfold goesOn; rw [if_pos HP9.out]]; rfl)) (by repeat (first | (with_reducible exact Part.refl _ _) | refine Part.set ?_ (by simp) _ | (with_reducible refine Part.alloc ?_ _) | (with_reducible refine Part.drew ?_)))).1⟩
              case measure => simp [intOf]; omega
            · skip
              have HLA : Hid (decide ((stepB ba ws (newB 2 q)).ph = 9) = false) := Lib.hid (by simpa using hp9)
              obtain ⟨kbv, hkbv⟩ : ∃ x, ((newB 2 q).k == 1) = x := ⟨_, rfl⟩
              have HKB := Lib.hid hkbv
              clear hkbv
              have HP9 := Lib.hid hp9
              clear hp9
              go_wp2_with (first
                | (go_at_call 16; (with_reducible refine (bstep_op HEe.out.one.quo HRq.out HOKq.out).mono ?_); intro e w7 hs; have HS := Lib.hid hs; have he := hs.1; subst he; rw [HDID.out, HLA.out, didV_five']; obtain ⟨hr7, hn7, nc7, nf7, nl7, tc7, tl7, m1, m2, m3, m4⟩ := early_facts HEe.out HSq.out hs HKB.out; have HR7 := Lib.hid hr7; have HN7 := Lib.hid hn7; have M3 := Lib.hid m3; have m5 : ¬ gn = w7.heap.size := (by omega); have m6 : ¬ w7.heap.size = gn := (by omega); clear hs hr7 hn7))
              go_roundw
              case rel => exact ⟨j + 1, by omega, by go_num, m + 1, T, _, _, _, rfl, by omega, rfl, early_T (by rw [show takenC (stepB ba ws (newB 2 q)) = 0 from by unfold takenC; split <;> simp [HP9.out]]; try omega) (HEe.out.step HSq.out HS.out (Row.of_eq (l := (ss.set q (some (bp, newB 2 q))).map ptrS) (by repeat (first | (with_reducible exact HN7.out) | (with_reducible refine Row.alloc ?_ _) | (with_reducible refine Row.drew ?_))) (by rw [show goesOn bp (stepB ba ws (newB 2 q)) = (some (bp, stepB ba ws (newB 2 q))) from by unfold goesOn; rw [if_neg HP9.out]]; exact (ptrs_same HSq.out).symm)) (by repeat (first | (with_reducible exact Part.refl _ _) | refine Part.set ?_ (by simp) _ | (with_reducible refine Part.alloc ?_ _) | (with_reducible refine Part.drew ?_)))).1⟩
              case measure => simp [intOf]; omega
        · have hdm : decide ((m : Int) < (ks.length : Int)) = false := by simpa using hml
          go_upto_region 25 with (go_at_call 13; go_loud ((refine (bstart_1 (HC.out.one.quo.alloc _) HC.out.one.len hqn).mono ?_); rintro e w5 ⟨bp, rfl, hn5, hr5, hb5⟩; have hb5' : Below wr.heap.size wr w5 := ((Below.refl _ _).alloc (Nat.le_refl _) _).trans (hb5.mono (by simp)); have h5 := HC.out.on hb5'; have HN5 := Lib.hid h5.now; have HT5 := Lib.hid h5.tks; have HB5 := Lib.hid hb5'; have HR5 := Lib.hid hr5; have HL5 : Hid (wr.heap.size ≤ bp) := Lib.hid (by simp at hn5; omega); have hbox : Row w5 wr.heap.size 37 [.int .u8 1, .int .i64 (q : Int)] := (Row.new wr _ _).below hb5 (by simp); have bx0 : w5.cell? ⟨wr.heap.size, 0, none⟩ = some (.int .u8 1) := hbox.cell 0; have nc5 : w5.cell? ⟨gn, q, none⟩ = some (.pointer none) := (hb5'.cell (p := ⟨gn, q, none⟩) hnl).trans nc1; have tc5 : ∃ y, w5.cell? ⟨gt, q, none⟩ = some (.bool y) := ⟨tb[q]'(by rw [HC.out.tlen]; exact hqn), by rw [h5.tks.cell, List.getElem?_map, List.getElem?_eq_getElem (by rw [HC.out.tlen]; exact hqn)]; try rfl⟩; obtain ⟨y5, tc5⟩ := tc5; have nf5 := h5.now.free; have tf5 := h5.tks.free; have nl5 := h5.now.lt; have tl5 := h5.tks.lt; have m7 : ¬ gn = gt := h5.now.ne h5.tks (by decide); have m8 : ¬ gt = gn := fun e => m7 e.symm; have m9 : ¬ gn = wr.heap.size := (by omega); have m10 : ¬ wr.heap.size = gn := (by omega); have m11 : ¬ gt = wr.heap.size := (by omega); have m12 : ¬ wr.heap.size = gt := (by omega); clear hn5 hr5 hb5 hb5' h5 hbox))
          have HEe : Hid (EarlyB W bq bk bw ba n ws (ss.set q (some (bp, newB 1 q))) (tb.set q (1 == 1)) gn gt T limit ((w5.setCell ⟨gn, q, none⟩ (.pointer (some ⟨bp, 0, none⟩))).setCell ⟨gt, q, none⟩ (.bool true))) := Lib.hid (HC.out.begin_ (k := 1) HSn.out (by omega) HB5.out HR5.out HL5.out ((HN5.out.set q _).far (fun e => m7 e.symm) _) ((HT5.out.far (fun e => m7 e) _).set q _) (((Part.refl [gn, gt] _).set (by simp) _).set (by simp) _))
          have HSq : Hid ((ss.set q (some (bp, newB 1 q)))[q]? = some (some (bp, newB 1 q))) := Lib.hid (List.getElem?_set_self (lt_of_get HSn.out))
          clear nc1 hnl htl bx0 m9 m10 m11 m12
          have hrq : Row _ bp 75 (rowB bq (newB 1 q)) := (HEe.out.op q _ HSq.out).row
          have hokq : OkB ws.length (newB 1 q) := by rw [HEe.out.one.len]; exact (HEe.out.op q _ HSq.out).ok
          have HRq := Lib.hid hrq
          have HOKq := Lib.hid hokq
          clear hrq hokq
          obtain ⟨⟨x0, x1, x2, x3, x4⟩, hdid⟩ : ∃ d, didB ba ws (newB 1 q) = d := ⟨_, rfl⟩
          have HDID := Lib.hid hdid
          clear hdid
          have hp9 : ¬ (stepB ba ws (newB 1 q)).ph = 9 := by simp only [stepB, newB]; split <;> simp_all; (try split) <;> simp
          have HLA : Hid (decide ((stepB ba ws (newB 1 q)).ph = 9) = false) := Lib.hid (by simpa using hp9)
          obtain ⟨kbv, hkbv⟩ : ∃ x, ((newB 1 q).k == 1) = x := ⟨_, rfl⟩
          have HKB := Lib.hid hkbv
          clear hkbv
          have HP9 := Lib.hid hp9
          clear hp9
          go_wp2_with (first
            | (go_at_call 16; (with_reducible refine (bstep_op HEe.out.one.quo HRq.out HOKq.out).mono ?_); intro e w7 hs; have HS := Lib.hid hs; have he := hs.1; subst he; rw [HDID.out, HLA.out, didV_five']; obtain ⟨hr7, hn7, nc7, nf7, nl7, tc7, tl7, m1, m2, m3, m4⟩ := early_facts HEe.out HSq.out hs HKB.out; have HR7 := Lib.hid hr7; have HN7 := Lib.hid hn7; have M3 := Lib.hid m3; have m5 : ¬ gn = w7.heap.size := (by omega); have m6 : ¬ w7.heap.size = gn := (by omega); clear hs hr7 hn7))
          go_roundw
          case rel => exact ⟨j + 1, by omega, by go_num, m + 1, T, _, _, _, rfl, by omega, rfl, early_T (by rw [show takenC (stepB ba ws (newB 1 q)) = 0 from by unfold takenC; split <;> simp [HP9.out]]; try omega) (HEe.out.step HSq.out HS.out (Row.of_eq (l := (ss.set q (some (bp, newB 1 q))).map ptrS) (by repeat (first | (with_reducible exact HN7.out) | (with_reducible refine Row.alloc ?_ _) | (with_reducible refine Row.drew ?_))) (by rw [show goesOn bp (stepB ba ws (newB 1 q)) = (some (bp, stepB ba ws (newB 1 q))) from by unfold goesOn; rw [if_neg HP9.out]]; exact (ptrs_same HSq.out).symm)) (by repeat (first | (with_reducible exact Part.refl _ _) | refine Part.set ?_ (by simp) _ | (with_reducible refine Part.alloc ?_ _) | (with_reducible refine Part.drew ?_)))).1⟩
          case measure => simp [intOf]; omega
    · obtain rfl : j = xs.length := by omega
      have hfin : decide (T ≤ limit) = true := by have := HTB.out; simp; omega
      go_wp2
      go_ret
      exact ⟨rfl, HC.out.one.low⟩
end Go.Proofs.Ytddlalljdecdoaa
