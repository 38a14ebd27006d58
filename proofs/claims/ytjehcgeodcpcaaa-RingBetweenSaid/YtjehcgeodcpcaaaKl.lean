/- THE WALKS of package ring: Each. -/
import Derived.Test.YtjehcgeodcpcaaaKk
import Derived.Test.YtjehcgeodcpcaaaOw
import Derived.Deep.RegionHeld3
namespace Go.Proofs.Ytjehcgeodcpcaaa
open Go Go.RowKit

/-- the counts of so many ticks from one on -/
def eachN (ws : List Int) (m j : Nat) : List Int := (List.range j).map fun i => cntN (cellN ws (m + i)) ((m + i : Nat) : Int)
theorem eachN_succ (ws : List Int) (m j : Nat) : eachN ws m (j + 1) = eachN ws m j ++ [cntN (cellN ws (m + j)) ((m + j : Nat) : Int)] := by
  unfold eachN
  rw [List.range_succ, List.map_append]
  rfl
theorem new_cells2 (w : World) (o : Obj) (l : List Value) (t : TypeId) : ∀ j u, l[j]? = some u → ((w.alloc o).alloc (.cells l.toArray t)).cell? ((⟨w.heap.size + 1, 0, none⟩ : Addr).add j) = some u := by
  intro j u hj
  rw [add_zero_]
  exact ((Row.new2 w o t l rfl).cell j).trans hj
theorem one_u64 (x : Int) : ∀ u ∈ [Value.int .u64 x], u.oneCell' = true := by intro u hu; simp at hu; subst hu; rfl
theorem eachN_len (ws : List Int) (m j : Nat) : (eachN ws m j).length = j := by simp [eachN]
set_option maxRecDepth 100000
set_option maxHeartbeats 1600000
theorem neach_no {w : World} {br bk bw : Nat} {wd : Int} {ws : List Int} {t v : Int} (h : Rng w br bk bw wd ws) (ht : t ≤ 9223372036854775807) (he : checkE wd 2 t 0 = v) (hv : v ≠ 0) :
    Calls Try.prog 20 #[.pointer (some ⟨br, 0, none⟩), .int .i64 t] w fun e w' => e = .returned (.tuple #[.slice none 0 0, .int .i64 v]) ∧ Below w.heap.size w w' := by
  have H := Lib.hid h
  have HE := Lib.hid he
  have HT := Lib.hid ht
  have HV := Lib.hid hv
  have dv : (v != 0) = true := by simpa using hv
  clear h he ht hv
  go_enter Try.func20, Try.ntmps20
  go_wp2_with (go_at_call 10; refine (nstart_no H.out HT.out U64.zero HE.out HV.out).mono ?_; rintro e w1 ⟨rfl, hb⟩; have HB := Lib.hid hb; clear hb)
  go_ret2
  exact ⟨rfl, HB.out⟩
/-- what Each leaves: a new list -/
def EachedN (w : World) (br bk bw : Nat) (wd : Int) (ws l : List Int) (e : Ending) (w' : World) : Prop :=
  ∃ g, e = .returned (.tuple #[.slice (some ⟨g, 0, none⟩) l.length l.length, .int .i64 0]) ∧ w.heap.size ≤ g ∧ Row w' g 37 (u64s l) ∧ Rng w' br bk bw wd ws ∧ Part [bw] w w'
theorem neach_is {w : World} {br bk bw : Nat} {wd : Int} {ws : List Int} {t : Int} {q m K : Nat} (h : Rng w br bk bw wd ws) (ht : t ≤ 9223372036854775807) (hf : FineN wd 2 t 0 q) (hm : q + 1 - ws.length = m) (hK : q - m + 1 = K) :
    Calls Try.prog 20 #[.pointer (some ⟨br, 0, none⟩), .int .i64 t] w (EachedN w br bk bw wd ws (eachN ws m K)) := by
  obtain ⟨i0, hi, hz0, hz1, hz2⟩ := info_parts info29
  have hlp := h.pos
  have hlt := h.top
  have hmq : m ≤ q := by omega
  have hK1 : K ≤ 4096 := by omega
  have hKi : (q : Int) - (m : Int) + 1 = (K : Int) := by omega
  have hmk : ∀ w : World, (Instr.makeSlice 29 (.int .i64 0) (.int .i64 (K : Int))).run Try.prog w = .ok (.slice (some ⟨w.heap.size, 0, none⟩) 0 K) (w.alloc (.cells (u64s (List.replicate K 0)).toArray 37)) := fun w => by
    have := run_make (P := Try.prog) w 29 37 i0 (.int .u64 0) Try.underlying29 hi hz0 .i64 .i64 0 K (by omega) (by omega) (by rw [hz2]; omega) (by omega)
    rw [this, hz1]
    simp only [Int.toNat_natCast]
    rw [← noughts29]
    rfl
  have HQ : Hid (q ≤ 4294967295) := Lib.hid hf.top
  have H := Lib.hid h
  have HF := Lib.hid hf
  have HT := Lib.hid ht
  have HMM := Lib.hid hm
  have HO1 : Hid (OkN (newN ws.length 2 q 0)) := Lib.hid (OkN.new hf.right h.pos h.top)
  have HN1 : Hid (opNL br (newN ws.length 2 q 0) = pendN br (m : Int) (q : Int) 0 0 0 (fnV 29) 0 0) := Lib.hid (by rw [← hm]; rfl)
  clear h ht hf hm
  go_enter Try.func20, Try.ntmps20
  go_wp2_with (go_at_call 10; refine (nstart_op H.out HT.out HF.out).mono ?_; rintro e w1 ⟨bp, rfl, hn, hr1, hb⟩; have HB1 := Lib.hid hb; have HR1 := Lib.hid hr1; have HP1 := Lib.hid hn; have HS1 := Lib.hid (H.out.on hb); rw [HN1.out] at hr1; obtain ⟨p0, p1, p2, p3, p4, p5, p6, p7, p8⟩ := pendN_cells hr1; have pf := hr1.free; have plt := hr1.lt; clear hb hr1 hn)
  go_region
  all_goals
    go_wp2_with fail
    have HOW : Hid (World.ownsRow (w1.alloc (.cells (u64s (List.replicate K 0)).toArray 37)).drew 0 37 1 (.slice (some ⟨w1.heap.size, 0, none⟩) 0 K) 0 (u64s (eachN ws m 0))) := Lib.hid (by
      obtain ⟨w', hrun, hown, -⟩ := run_make_own (P := Try.prog) w1 0 29 37 i0 (.int .u64 0) 1 Try.underlying29 hi hz0 hz1 .i64 .i64 K (by rw [hz2]; omega) (by unfold maxLen; omega) (Nat.zero_le _)
      rw [hmk] at hrun
      injection hrun with _ hw
      rw [hw]
      exact hown)
    have HG : Hid (w.heap.size ≤ w1.heap.size) := Lib.hid HB1.out.size
    have HS3 := Lib.hid (HS1.out.alloc (.cells (u64s (List.replicate K 0)).toArray 37)).drew
    have HR3 := Lib.hid (HR1.out.alloc (.cells (u64s (List.replicate K 0)).toArray 37)).drew
    have HA3 : Hid (Part [bw, bp, w1.heap.size] w1 (w1.alloc (.cells (u64s (List.replicate K 0)).toArray 37)).drew) := Lib.hid ((Part.refl _ _).alloc _).drew
    obtain ⟨g, hg⟩ : ∃ g, w1.heap.size = g := ⟨_, rfl⟩
    rw [hg] at HOW HG HA3 ⊢
    generalize (w1.alloc (.cells (u64s (List.replicate K 0)).toArray 37)).drew = w3 at *
    clear hmk p0 p1 p2 p3 p4 p5 p6 p7 p8 pf plt
    go_loopw [8] (fun ev wr => ∃ j o, OkN o ∧ o.k = 2 ∧ o.q = q ∧ o.ph ≠ 1 ∧ (o.ph = 0 → o.cur = m + j ∧ m + j ≤ q) ∧ (o.ph = 2 → j = K) ∧ j ≤ K ∧ ev = .slice (some ⟨g, 0, none⟩) j K ∧ wr.ownsRow 0 37 1 (.slice (some ⟨g, 0, none⟩) j K) j (u64s (eachN ws m j)) ∧ Row wr bp 77 (opNL br o) ∧ Rng wr br bk bw wd ws ∧ Part [bw, bp, g] w1 wr) (fun _ wr => muW wr bp)
    case atStart => exact ⟨0, newN ws.length 2 q 0, HO1.out, rfl, rfl, by simp [newN], fun _ => ⟨by rw [← HMM.out]; rfl, by omega⟩, by simp [newN], Nat.zero_le _, rfl, HOW.out, HR3.out, HS3.out, HA3.out⟩
    case round =>
      obtain ⟨j, o, hok, hk2, hoq, hp1, hp0, hp2, hjK, rfl, hown, hrow, hrng, hpart⟩ := hrel
      have HOK := Lib.hid hok
      have HROW := Lib.hid hrow
      have HRNG := Lib.hid hrng
      have HPART := Lib.hid hpart
      have HOWN := Lib.hid hown
      by_cases h2 : o.ph = 2
      · obtain rfl := hp2 h2
        have HD : Hid (decide (o.ph = 2) = true) := Lib.hid (by rw [h2]; rfl)
        clear hok hown hrow hrng hpart hp0 hp1 hp2
        go_wp2_with (go_at_call 16; (with_reducible refine (ndone_op HROW.out HOK.out.ph).mono ?_); rw [HD.out]; rintro e wx ⟨rfl, rfl⟩)
        go_ret2
        refine ⟨g, by rw [eachN_len]; rfl, HG.out, row_of_full HOWN.out, HRNG.out, ?_⟩
        refine Part.trans (S' := [bw, bp, g]) (Part.of_below HB1.out (Nat.le_refl _) [bw]) HPART.out (fun q hq hm => ?_)
        have h1 := HP1.out
        have h2 := HG.out
        simp at hm ⊢
        omega
      · have h0 : o.ph = 0 := by have := hok.ph; omega
        obtain ⟨hcur, hmj⟩ := hp0 h0
        have HD : Hid (decide (o.ph = 2) = false) := Lib.hid (by simpa using h2)
        have HWS : Hid (stepNW ws o = ws) := Lib.hid (if_neg (by omega))
        have HDD : Hid (didN ws o = .agg #[.int .u8 1, .int .i64 (((m + j) % ws.length : Nat) : Int), .int .u64 (cellN ws (m + j)), .int .u64 (cellN ws (m + j)), .bool true]) := Lib.hid (by unfold didN; rw [if_pos h0, hcur])
        have HU : Hid (U64 (cellN ws (m + j))) := Lib.hid (hrng.words.cell64 hrng.pos _)
        have HMU : Hid (muO (stepN ws o) < muO o) := Lib.hid (muO_step (fun e => absurd e hp1) hok h2)
        have HOK2 : Hid (OkN (stepN ws o)) := Lib.hid (hok.step (hrng.words.cell64 hrng.pos))
        have HM0 : Hid (muW wr bp = muO o) := Lib.hid (muW_row hrow hok.ph hok.cur)
        have hst : stepN ws o = if m + j = q then { o with ph := 2, ans := o.ans + cntN (cellN ws o.cur) (o.cur : Int), why := 0 } else { o with cur := o.cur + 1, ans := o.ans + cntN (cellN ws o.cur) (o.cur : Int) } := by
          unfold stepN
          rw [if_pos h0, if_neg (by omega), hcur, hoq]
        have HST : Hid ((stepN ws o).k = 2 ∧ (stepN ws o).q = q ∧ (stepN ws o).ph ≠ 1 ∧ ((stepN ws o).ph = 0 → (stepN ws o).cur = m + (j + 1) ∧ m + (j + 1) ≤ q) ∧ ((stepN ws o).ph = 2 → j + 1 = K)) := Lib.hid (by
          rw [hst]
          split
          · rename_i e
            exact ⟨hk2, hoq, by simp, by simp, fun _ => by omega⟩
          · rename_i e
            exact ⟨hk2, hoq, by simp [h0], fun _ => ⟨by show o.cur + 1 = m + (j + 1); omega, by omega⟩, fun h => absurd h h2⟩)
        have hj1 : j < K := by omega
        have hr' : Row wr bp 77 (pendN br (((m + j : Nat)) : Int) (o.q : Int) o.n o.saw o.put (nxN o) o.ans o.why) := by rw [← hcur]; exact hrow
        obtain ⟨p0, p1, p2, p3, p4, p5, p6, p7, p8⟩ := pendN_cells hr'
        have plt := hr'.lt
        have HGS : Hid (∀ q', (Value.slice (some ⟨g, 0, none⟩) j K).ownBlock = some q' → q' ∉ [bw, bp]) := Lib.hid (fun q' hq' => by
          have a := own_off hown hrng.words.row (by decide) q' hq'
          have b := own_off hown hrow (by decide) q' hq'
          simp [a, b])
        clear hok hown hrow hrng hpart hp0 hp1 hp2 hr' hst h2 h0
        go_wp2_with (first
          | (go_at_call 16; (with_reducible refine (ndone_op HROW.out HOK.out.ph).mono ?_); rw [HD.out]; rintro e wx ⟨rfl, rfl⟩)
          | (go_at_call 13; (with_reducible refine (nstep_op HRNG.out HROW.out HOK.out).mono ?_); rw [HWS.out, HDD.out]; rintro e w2 ⟨rfl, hS, hR, hP⟩; have HS2 := Lib.hid hS; have HR2 := Lib.hid hR; have HP2 := Lib.hid hP; have HOW2 := Lib.hid (own_part HOWN.out hP HGS.out); clear hS hR hP)
          | (go_at_call 33; (with_reducible refine (rcount_at HU.out rfl _).mono ?_); rintro e w5 ⟨rfl, rfl⟩)
          | (at_builtin; refine wpList_append_fits _ rfl _ _ 29 rfl 0 37 i0 1 Try.underlying29 hi hz1 g j K _ rfl ((HOW2.out.alloc _).alloc _) ⟨_, 0, none⟩ 1 1 [.int .u64 (cntN (cellN ws (m + j)) ((m : Int) + (j : Int)))] rfl rfl (new_cells2 _ _ _ _) (one_u64 _) (by omega) ?_; intro w7 hown7 hgr7; have HO7 := Lib.hid hown7; have HG7 := Lib.hid hgr7; clear hown7 hgr7))
        go_roundw
        case rel =>
          have hE : u64s (eachN ws m (j + 1)) = u64s (eachN ws m j) ++ [.int .u64 (cntN (cellN ws (m + j)) ((m : Int) + (j : Int)))] := by
            rw [eachN_succ]
            simp [u64s]
          have l1 := H.out.head.lt
          have l2 := H.out.words.head.lt
          have l3 := H.out.words.row.lt
          have l4 := HG.out
          have l5 := HR1.out.lt
          have HP7 := Part.grown (Part.refl [g] _) HG7.out (fun q' hq' _ => by cases hq'; simp)
          refine ⟨j + 1, stepN ws o, HOK2.out, HST.out.1, HST.out.2.1, HST.out.2.2.1, HST.out.2.2.2.1, HST.out.2.2.2.2, hj1, rfl, by rw [hE]; exact HO7.out, Row.part ((HR2.out.alloc _).alloc _) HP7 (by simp; omega), Rng.part ((HS2.out.alloc _).alloc _) HP7 (by simp; omega) (by simp; omega) (by simp; omega), ?_⟩
          refine Part.trans (S' := [g]) (((Part.trans (S' := [bw, bp]) HPART.out HP2.out (fun q' _ hm => by simp at hm ⊢; omega)).alloc _).alloc _) HP7 (fun q' _ hm => by simp at hm ⊢; omega)
        case measure => rw [muW_row (Row.part ((HR2.out.alloc _).alloc _) (Part.grown (Part.refl [g] _) HG7.out (fun q' hq' _ => by cases hq'; simp)) (by have l5 := HR1.out.lt; simp; omega)) HOK2.out.ph HOK2.out.cur, HM0.out]; exact HMU.out
end Go.Proofs.Ytjehcgeodcpcaaa
