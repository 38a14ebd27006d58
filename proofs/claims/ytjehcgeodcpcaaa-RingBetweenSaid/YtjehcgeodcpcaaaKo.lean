/- THE WALK of the document's ring: Each. -/
import Derived.Test.YtjehcgeodcpcaaaKz
import Derived.Test.YtjehcgeodcpcaaaKl
namespace Go.Proofs.Ytjehcgeodcpcaaa
open Go Go.RowKit

theorem dleast_at {wd : Int} {A : Option Addr} {len cap q m : Nat} (hq : q ≤ 4294967295) (hl : len ≤ 4096) (hm : q + 1 - len = m) (w : World) :
    Calls Try.prog 34 #[.agg #[.int .i64 wd, .slice A len cap], .int .i64 (q : Int)] w fun e w' => e = .returned (.int .i64 (m : Int)) ∧ Below w.heap.size w w' := hm ▸ dleast_any hq hl w
set_option maxRecDepth 100000
set_option maxHeartbeats 3200000
theorem deach_no {w : World} {A : Option Addr} {len c : Nat} {wd t v : Int} (hw : 1 ≤ wd) (hw2 : wd ≤ 1152921504606846976) (ht : t ≤ 9223372036854775807) (he : checkE wd 2 t 0 = v) (hv : v ≠ 0) :
    Calls Try.prog 21 #[.agg #[.int .i64 wd, .slice A len c], .int .i64 t] w fun e w' => e = .returned (.tuple #[.slice none 0 0, .int .i64 v]) ∧ Below w.heap.size w w' := by
  have HE := Lib.hid he
  have HT := Lib.hid ht
  have dv : (v != 0) = true := by simpa using hv
  clear he ht hv
  go_enter Try.func21, Try.ntmps21
  go_wp2_with (go_at_call 11; (with_reducible refine (dfault_of hw hw2 HT.out U64.zero HE.out _).mono ?_); rintro e w1 ⟨rfl, hb⟩; have HB1 := Lib.hid hb; clear hb)
  go_ret2
  exact ⟨rfl, ((Below.refl _ _).alloc (Nat.le_refl _) _).trans (HB1.out.mono (by simp))⟩
theorem deach_yes {w : World} {base : Nat} {A : Option Addr} {n c q m K : Nat} {wd t : Int} {ws : List Int} (hn : ws.length = n) (h : w.ownsRow base 37 1 (.slice A n c) n (u64s ws)) (hw : 1 ≤ wd) (hw2 : wd ≤ 1152921504606846976) (hp : 0 < n) (hl : n ≤ 4096) (ht : t ≤ 9223372036854775807) (hu : ∀ u ∈ ws, U64 u) (hf : FineN wd 2 t 0 q) (hm : q + 1 - n = m) (hK : q - m + 1 = K) :
    Calls Try.prog 21 #[.agg #[.int .i64 wd, .slice A n c], .int .i64 t] w fun e w' => ∃ g c', e = .returned (.tuple #[.slice (some ⟨g, 0, none⟩) K c', .int .i64 0]) ∧ w'.ownsRow w.heap.size 37 1 (.slice (some ⟨g, 0, none⟩) K c') K (u64s (eachN ws m K)) ∧ Below w.heap.size w w' := by
  obtain ⟨i0, hi, hz0, hz1, hz2⟩ := info_parts info29
  have HQ : Hid (Go.RowKit.wrap64 (t.tdiv wd) = (q : Int)) := Lib.hid (by rw [Int.tdiv_eq_ediv_of_nonneg hf.t0, hf.tick]; have := hf.top; unfold Go.RowKit.wrap64; omega)
  have hq1 := hf.top
  have HT := Lib.hid ht
  have HE := Lib.hid hf.check
  have HM := Lib.hid hm
  have HL := Lib.hid (own_liesU h)
  have HN := Lib.hid hn
  have HU := Lib.hid hu
  have hwd0 : ¬ wd = 0 := by omega
  have hmq : m ≤ q := by omega
  have hK1 : K ≤ 4096 := by omega
  have hn0 : ¬ (n : Int) = 0 := by omega
  clear ht hf hm h hn hu
  go_enter Try.func21, Try.ntmps21
  go_upto_region 5 with (go_at_call 11; (with_reducible refine (dfault_of hw hw2 HT.out U64.zero HE.out _).mono ?_); rintro e w1 ⟨rfl, hb⟩; have HB1 := Lib.hid hb; have hr2 := (Row.new w 31 [.int .i64 wd, .slice A n c]).below hb (by simp); have HR2 := Lib.hid hr2; obtain ⟨y0, y1⟩ := hr2.two2; have ylt := hr2.lt; clear hb hr2)
  have HBW : Hid (Below w.heap.size w w1) := Lib.hid (((Below.refl _ _).alloc (Nat.le_refl _) _).trans (HB1.out.mono (by simp)))
  clear HB1
  go_cut [8] (fun s8 wx => s8 = .int .i64 (q : Int) ∧ wx = w1)
  case first =>
    go_wp2
    go_meet
    exact ⟨by rw [HQ.out], rfl⟩
  case rest =>
    obtain ⟨rfl, rfl⟩ := hcut
    go_wp2_with (go_at_call 34; (with_reducible refine (dleast_at hq1 hl HM.out _).mono ?_); rintro e w2 ⟨rfl, hb⟩; have HB2 := Lib.hid (HBW.out.trans (hb.mono HBW.out.size)); have HR3 := Lib.hid (HR2.out.below hb HR2.out.lt); clear hb)
    clear y0 y1 ylt HR2 HBW
    go_loopw [7, 9] (fun vo k wr => ∃ j : Nat, j ≤ K ∧ k = .int .i64 ((m + j : Nat) : Int) ∧ wr.ownsRow w.heap.size 37 1 vo j (u64s (eachN ws m j)) ∧ Row wr w.heap.size 31 [.int .i64 wd, .slice A n c] ∧ Below w.heap.size w wr) (fun _ k _ => (q : Int).toNat + 1 - (intOf k).toNat)
    case atStart => exact ⟨0, Nat.zero_le _, rfl, World.ownsRow_nil _ _ _ _, HR3.out, HB2.out⟩
    case round =>
      obtain ⟨j, hj, rfl, hown, hr, hb⟩ := hrel
      obtain ⟨Av, cv, rfl⟩ := own_form hown
      have HOWN := Lib.hid hown
      have HR := Lib.hid hr
      have HBL := Lib.hid hb
      clear HR3 HB2
      by_cases hjK : j < K
      · have hle : ((m + j : Nat) : Int) ≤ (q : Int) := by omega
        obtain ⟨x, hx⟩ : ∃ x, cellN ws (m + j) = x := ⟨_, rfl⟩
        have hp' : 0 < ws.length := by rw [HN.out]; exact hp
        have hgt := cellN_get hp' (m + j)
        rw [hx, HN.out] at hgt
        have hux := HU.out x (List.mem_of_getElem? hgt)
        obtain ⟨g, hA, hg, hc⟩ := (HL.out.below (hb.mono (Nat.le_refl _))) _ x hgt
        cases hA
        obtain ⟨i, hi2⟩ : ∃ i, (m + j) % n = i := ⟨_, rfl⟩
        rw [hi2] at hc
        have HI : Hid ((((m + j : Nat) : Int)) % (n : Int) = (i : Int)) := Lib.hid (by omega)
        have hin : i < n := by rw [← hi2]; exact Nat.mod_lt _ hp
        have hin2 : (i : Int) < (n : Int) := by omega
        have hand := and32 hux
        have hux0 := hux.1
        have hux1 := hux.2
        obtain ⟨y0, y1⟩ := hr.two2
        have ylt := hr.lt
        have HX := Lib.hid hx
        have hrem : (((m : Int) + (j : Int)) % (n : Int)) = (i : Int) := by have := HI.out; rw [Int.natCast_add] at this; exact this
        clear hown hr hb hgt hux hi2 hx
        go_upto_region 9 with fail
        go_cut [10] (fun s10 wx => s10 = .int .u64 x ∧ ∃ mm, wx = wr.drewN mm)
        case first =>
          go_quiet (fail)
          go_wp2
          go_meet
          exact ⟨rfl, _, rfl⟩
        case rest =>
          obtain ⟨rfl, mm, rfl⟩ := hcut
          have HOWN2 := Lib.hid (own_part HOWN.out (Part.of_below (Below.draws (Below.refl wr.heap.size wr) mm) (Nat.le_refl _) []) (by simp))
          have HR2 := Lib.hid (HR.out.below (Below.draws (Below.refl wr.heap.size wr) mm) HR.out.lt)
          have HBL2 := Lib.hid (HBL.out.trans ((Below.draws (Below.refl wr.heap.size wr) mm).mono HBL.out.size))
          generalize wr.drewN mm = wr2 at *
          have hj63 : j + 1 ≤ maxLen := by unfold maxLen; omega
          have hj8 : (j + 1) * 8 ≤ 140737488355328 := by omega
          clear y0 y1 ylt hc hg hrem HOWN HR HBL
          obtain ⟨z, hz⟩ : ∃ z, cntN x ((m + j : Nat) : Int) = z := ⟨_, rfl⟩
          have HZ : Hid (u64s (eachN ws m j) ++ [.int .u64 z] = u64s (eachN ws m (j + 1))) := Lib.hid (by rw [eachN_succ, HX.out, hz]; simp [u64s])
          have HW : Hid (∀ w7 vo', w7.ownsRow w.heap.size 37 1 vo' (j + 1) (u64s (eachN ws m j) ++ [.int .u64 z]) → (wr2.alloc (.cells #[.int .u64 z] 37)).grownBy w7 (Value.slice Av j cv).ownBlock → ∃ jj : Nat, jj ≤ K ∧ Value.int .i64 ((m : Int) + (j : Int) + 1) = .int .i64 ((m + jj : Nat) : Int) ∧ w7.ownsRow w.heap.size 37 1 vo' jj (u64s (eachN ws m jj)) ∧ Row w7 w.heap.size 31 [.int .i64 wd, .slice (some ⟨g, 0, none⟩) n c] ∧ Below w.heap.size w w7) := Lib.hid (fun w7 vo' ho hg => by
            rw [HZ.out] at ho
            refine ⟨j + 1, hjK, by go_num, ho, (HR2.out.alloc _).grown hg (own_not_in HOWN2.out HR2.out (by decide)), (below_more HBL2.out _).grown hg (by have := HBL2.out.size; simp; omega) (own_from HOWN2.out)⟩)
          by_cases e : x / 4294967296 = ((m + j : Nat) : Int)
          · have d2 : (x / 4294967296 == ((m : Int) + (j : Int))) = true := by simpa using e
            have hcc := hz
            unfold cntN at hcc
            rw [if_pos e] at hcc
            rw [hcc] at hand
            clear hcc hz e HX
            go_wp2_with (at_builtin; refine wpList_append_own _ rfl _ _ 29 rfl w.heap.size 37 i0 (.int .u64 0) 1 8 Try.underlying29 hi hz0 hz1 hz2 rfl (by decide) _ _ _ rfl (HOWN2.out.alloc _) ⟨wr2.heap.size, 0, none⟩ 1 1 [.int .u64 (z)] rfl rfl (new_cells _ _ _) (one_u64 _) (by unfold maxLen; omega) (by omega) (by have := HBL2.out.size; simp; omega) ?_; intro vo' w7 hown7 hgr7 _; have HO7 := Lib.hid hown7; have HG7 := Lib.hid hgr7; clear hown7 hgr7)
            go_roundw
            case rel => exact HW.out _ _ HO7.out HG7.out
            case measure => simp [intOf]; omega
          · have d2 : (x / 4294967296 == ((m : Int) + (j : Int))) = false := by simpa using e
            have hcc := hz
            unfold cntN at hcc
            rw [if_neg e] at hcc
            subst hcc
            clear hz e HX
            go_wp2_with (at_builtin; refine wpList_append_own _ rfl _ _ 29 rfl w.heap.size 37 i0 (.int .u64 0) 1 8 Try.underlying29 hi hz0 hz1 hz2 rfl (by decide) _ _ _ rfl (HOWN2.out.alloc _) ⟨wr2.heap.size, 0, none⟩ 1 1 [.int .u64 (0)] rfl rfl (new_cells _ _ _) (one_u64 _) (by unfold maxLen; omega) (by omega) (by have := HBL2.out.size; simp; omega) ?_; intro vo' w7 hown7 hgr7 _; have HO7 := Lib.hid hown7; have HG7 := Lib.hid hgr7; clear hown7 hgr7)
            go_roundw
            case rel => exact HW.out _ _ HO7.out HG7.out
            case measure => simp [intOf]; omega
      · obtain rfl : j = K := by omega
        have hgt : ¬ ((m + j : Nat) : Int) ≤ (q : Int) := by omega
        obtain ⟨g, c', hv, _⟩ := own_some hown (by omega)
        cases hv
        clear hown hr hb
        go_wp2
        go_ret2
        exact ⟨g, _, rfl, HOWN.out, HBL.out⟩
end Go.Proofs.Ytjehcgeodcpcaaa
