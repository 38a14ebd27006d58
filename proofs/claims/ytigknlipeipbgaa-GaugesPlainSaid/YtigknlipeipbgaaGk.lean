/- THE WALKS of the statements' own 'begun' and 'ended' of package gauges. -/
import Derived.Test.YtigknlipeipbgaaGj
import Derived.Deep.RegionHeld3
import Derived.Deep.LoopGhost
namespace Go.Proofs.Ytigknlipeipbgaa
open Go Go.RowKit

theorem ends_take {xs : List Nat} {j x : Nat} (k : Int) (h : xs[j]? = some x) : (xs.take (j + 1)).map (newG k) = (xs.take j).map (newG k) ++ [newG k x] := by
  rw [List.take_add_one, h]
  simp
theorem right_k {k : Int} (h : 3 ≤ k ∧ k ≤ 5) (x : Nat) : grightB k x = true := by
  unfold grightB
  have h1 : decide (2 ≤ k) = true := by simp; omega
  have h2 : decide (k ≤ 5) = true := by simp; omega
  rw [h1, h2]
  simp
/-- what 'begun' leaves -/
def BegunAll (W : World) (bg bk bw T : Nat) (os : List OpG) (e : Ending) (w' : World) : Prop := ∃ vp bs, e = .returned vp ∧ ManyG W bg bk bw T os bs vp w'

set_option maxRecDepth 100000
set_option maxHeartbeats 3200000
theorem gbegun_any {W w : World} {bg bk bw T : Nat} {k : Int} {A : Option Addr} {cap : Nat} {xs : List Nat} (h : OneG W bg bk bw T w) (hk : 3 ≤ k ∧ k ≤ 5) (hE : ExtF W A xs) (hr : xs.length * 8 ≤ 140737488351232) :
    Calls Try.prog 31 #[.pointer (some ⟨bg, 0, none⟩), .int .u8 k, .slice A xs.length cap] w (BegunAll W bg bk bw T (xs.map (newG k))) := by
  obtain ⟨ip, hip, hp0, hp1, hp2⟩ := info_parts infoPG
  have HE := Lib.hid hE
  have H := Lib.hid h
  have HK := Lib.hid hk
  clear hE h hk
  go_enter Try.func31, Try.ntmps31
  go_wp2
  go_loopw [7, 14] (fun vp u wr => ∃ j : Nat, j ≤ xs.length ∧ u = .int .i64 j ∧ ∃ bs, ManyG W bg bk bw T ((xs.take j).map (newG k)) bs vp wr) (fun _ u _ => xs.length - (intOf u).toNat)
  case atStart => exact ⟨0, Nat.zero_le _, rfl, [], ManyG.nil H.out⟩
  case round =>
    obtain ⟨j, hj, rfl, bs, hM⟩ := hrel
    have HM := Lib.hid hM
    clear hM
    by_cases hlt : j < xs.length
    · obtain ⟨x, hx⟩ : ∃ x, xs[j]? = some x := ⟨xs[j], List.getElem?_eq_getElem hlt⟩
      obtain ⟨b', o, rfl, hlt', q0, lx⟩ := (HE.out.on HM.out.low) j _ hx
      have LX := Lib.hid lx
      have hlt2 : (j : Int) < (xs.length : Int) := by omega
      have HT := Lib.hid (ends_take k hx)
      have HLL : Hid (bs.length + 1 ≤ xs.length) := Lib.hid (by have h1 := HM.out.pends.len; rw [List.length_map, List.length_take] at h1; omega)
      have H3 : Hid (bs.length + 1 ≤ maxLen) := Lib.hid (by have := HLL.out; unfold maxLen; omega)
      have H4 : Hid ((bs.length + 1) * 8 ≤ 140737488355328) := Lib.hid (by have := HLL.out; omega)
      clear hx lx
      go_wp2_with (first
        | (go_at_call 16; refine (gstart_op HM.out.one.gau.head LX.out (right_k HK.out _)).mono ?_; rintro e w5 ⟨bp, rfl, hn5, hr5, hb5⟩; have HB5 := Lib.hid hb5; have HN5 := Lib.hid hn5; have HR5 := Lib.hid hr5; have HM5 := Lib.hid (HM.out.on hb5); have H5 : Hid (W.heap.size ≤ (w5.alloc (.cells #[.pointer (some ⟨bp, 0, none⟩)] 36)).heap.size) := Lib.hid (by have := HM5.out.low.size; simp; omega); clear hb5 hn5 hr5)
        | (at_builtin; refine wpList_append_own _ rfl _ _ 31 rfl W.heap.size 36 ip (.pointer none) 1 8 Try.underlying31 hip hp0 hp1 hp2 rfl (by decide) _ _ _ rfl (HM5.out.ps.alloc _) ⟨w5.heap.size, 0, none⟩ 1 1 [.pointer (some ⟨bp, 0, none⟩)] rfl rfl (new_cells _ _ _) (one_ptr _) H3.out H4.out H5.out ?_; intro vp' w6 hown6 hgr6 _; have HO6 := Lib.hid hown6; have HG6 := Lib.hid hgr6; clear hown6 hgr6))
      go_roundw
      case rel => exact ⟨j + 1, by omega, by go_num, bs ++ [bp], by rw [HT.out]; exact HM.out.grow HB5.out HR5.out HN5.out (OkG.new (right_k HK.out _) LX.out) HO6.out HG6.out⟩
      case measure => simp [intOf]; omega
    · obtain rfl : j = xs.length := by omega
      go_wp2
      go_ret
      have := HM.out
      rw [List.take_length] at this
      exact ⟨_, bs, rfl, this⟩

/-- what an operation has left to do alone -/
def leftG (T : Nat) (o : OpG) : Nat := if o.ph = 0 then 2 else if o.ph = 1 then (if T = o.saw then 1 else 3) else 0
theorem left_le (T : Nat) (o : OpG) : leftG T o ≤ 3 := by unfold leftG; repeat (first | omega | split)
theorem left_step {T : Nat} {o : OpG} (h : OkG o) (h2 : o.ph ≠ 2) : leftG (wordG T o) (stepG T o) + 1 ≤ leftG T o := by
  have hp := h.ph
  unfold leftG wordG stepG
  by_cases h0 : o.ph = 0
  · simp only [h0, if_true]
    by_cases k2 : o.k = 2
    · simp [k2]
    · simp only [k2, if_false]
      cases putG o.k o.x T <;> simp
  · have h1 : o.ph = 1 := by omega
    simp only [h1]
    by_cases e : T = o.saw <;> simp [e]
theorem left_none {T : Nat} {o : OpG} (h : OkG o) (h0 : leftG T o = 0) : o.ph = 2 := by
  have hp := h.ph
  unfold leftG at h0
  split at h0
  · omega
  · split at h0
    · split at h0 <;> omega
    · omega
/-- the j first have ended -/
def Over (os : List OpG) (j : Nat) : Prop := ∀ i o, i < j → os[i]? = some o → o.ph = 2
theorem Over.set {os : List OpG} {j q : Nat} {o : OpG} (h : Over os j) (hq : j ≤ q) : Over (os.set q o) j := fun i x hi hx => by
  rw [List.getElem?_set_ne (by omega)] at hx
  exact h i x hi hx
theorem Over.next {os : List OpG} {j : Nat} {o : OpG} (h : Over os j) (ho : os[j]? = some o) (h2 : o.ph = 2) : Over os (j + 1) := fun i x hi hx => by
  by_cases e : i = j
  · subst e; rw [ho] at hx; cases hx; exact h2
  · exact h i x (by omega) hx
/-- what stays, whichever operation is stepped -/
def Stays (I : Nat → List OpG → Prop) : Prop := ∀ T os (q : Nat) o, B64 T → os[q]? = some o → OkG o → I T os → I (wordG T o) (os.set q (stepG T o))
/-- what 'ended' leaves -/
def EndedAll (W : World) (bg bk bw : Nat) (I : Nat → List OpG → Prop) (bs : List Nat) (vp : Value) (e : Ending) (w' : World) : Prop :=
  e = .returned (.bool true) ∧ ∃ T os, ManyG W bg bk bw T os bs vp w' ∧ I T os ∧ Over os bs.length
theorem gdone_at {w : World} {bp bk : Nat} {o : OpG} {d : Bool} (h : Row w bp 127 (opG bk o)) (h2 : o.ph ≤ 2) (hd : decide (o.ph = 2) = d) :
    Calls Try.prog 20 #[.pointer (some ⟨bp, 0, none⟩)] w fun e w' => e = .returned (.bool d) ∧ w = w' := by
  subst hd
  exact gdone_op h h2
theorem gended_any {W w : World} {bg bk bw T : Nat} {os : List OpG} {bs : List Nat} {vp : Value} {I : Nat → List OpG → Prop} {B : Option Addr} {cap : Nat} {xs : List Int} (h : ManyG W bg bk bw T os bs vp w) (hI : I T os) (hS : Stays I) (hn : bs.length ≤ 17592186044160) (hX : Ext .i64 W B xs) (hr : xs.length * 8 ≤ 140737488351232) :
    Calls Try.prog 32 #[vp, .slice B xs.length cap] w (EndedAll W bg bk bw I bs vp) := by
  have HX := Lib.hid hX
  have HS := Lib.hid hS
  have HM0 : Hid (∃ T os, ManyG W bg bk bw T os bs vp w ∧ I T os) := Lib.hid ⟨T, os, h, hI⟩
  obtain ⟨pa, pc, rfl⟩ := own_form h.ps
  clear hX h hI hS
  go_enter Try.func32, Try.ntmps32
  go_wp2
  go_loopw [12] (fun u wr => ∃ j : Nat, j ≤ xs.length ∧ u = .int .i64 j ∧ ∃ T os, ManyG W bg bk bw T os bs (.slice pa bs.length pc) wr ∧ I T os) (fun u _ => xs.length - (intOf u).toNat)
  case atStart =>
    obtain ⟨T, os, hM, hI⟩ := HM0.out
    exact ⟨0, Nat.zero_le _, rfl, T, os, hM, hI⟩
  case round =>
    obtain ⟨j, hj, rfl, T, os, hM, hI⟩ := hrel
    have HM := Lib.hid hM
    have HI := Lib.hid hI
    clear hM hI HM0
    by_cases hlt : j < xs.length
    · obtain ⟨k, hk⟩ : ∃ k, xs[j]? = some k := ⟨xs[j], List.getElem?_eq_getElem hlt⟩
      obtain ⟨b', o', rfl, hlt', q0⟩ := (HX.out.on HM.out.low) j _ hk
      have hlt2 : (j : Int) < (xs.length : Int) := by omega
      clear hk
      by_cases hk0 : k < 0
      · have hd : decide (0 ≤ k) = false := by simp; omega
        go_wp2
        go_roundw
        case rel => exact ⟨j + 1, by omega, by go_num, T, os, HM.out, HI.out⟩
        case measure => simp [intOf]; omega
      by_cases hkn : (bs.length : Int) ≤ k
      · have hd : decide (0 ≤ k) = true := by simp; omega
        have hd2 : decide (k < (bs.length : Int)) = false := by simp; omega
        go_wp2
        go_roundw
        case rel => exact ⟨j + 1, by omega, by go_num, T, os, HM.out, HI.out⟩
        case measure => simp [intOf]; omega
      obtain ⟨q, rfl⟩ := Int.eq_ofNat_of_zero_le (show 0 ≤ k by omega)
      have hqn : q < bs.length := by omega
      obtain ⟨o, b, g, c, ho, hb, hv, hc, hR, hok⟩ := HM.out.get hqn
      cases hv
      have hq2 : (q : Int) < (bs.length : Int) := by omega
      have HOo := Lib.hid ho
      have HBb := Lib.hid hb
      have HRr := Lib.hid hR
      have HOK := Lib.hid hok
      clear ho hb hR hok
      go_wp2_with (go_at_call 19; refine (gstep_op HM.out.one.gau.words HM.out.one.gau.ok HRr.out HOK.out).mono ?_; rintro e w2 ⟨rfl, hW2, hR2, hP2⟩; have HM2 := Lib.hid (HM.out.step HBb.out hW2 (wordG_lt HOK.out HM.out.one.gau.ok) hR2 hP2 (HOK.out.step HM.out.one.gau.ok)); clear hW2 hR2 hP2)
      go_roundw
      case rel => exact ⟨j + 1, by omega, by go_num, _, _, HM2.out, HS.out _ _ _ _ HM.out.one.gau.ok HOo.out HOK.out HI.out⟩
      case measure => simp [intOf]; omega
    · obtain rfl : j = xs.length := by omega
      go_wp2
      go_loopw [32] (fun u wr => ∃ j : Nat, j ≤ bs.length ∧ u = .int .i64 j ∧ ∃ T os, ManyG W bg bk bw T os bs (.slice pa bs.length pc) wr ∧ I T os ∧ Over os j) (fun u _ => bs.length - (intOf u).toNat)
      case atStart => exact ⟨0, Nat.zero_le _, rfl, T, os, HM.out, HI.out, fun i o hi => by omega⟩
      case round =>
        obtain ⟨j, hj, rfl, T, os, hM, hI, hO⟩ := hrel
        have HM := Lib.hid hM
        have HI := Lib.hid hI
        have HO := Lib.hid hO
        clear hM hI hO
        by_cases hlt : j < bs.length
        · obtain ⟨o, b, g, c, ho, hb, hv, hc, hR, hok⟩ := HM.out.get hlt
          cases hv
          have hlt2 : (j : Int) < (bs.length : Int) := by omega
          have hjn : j ≤ 17592186044160 := by omega
          have HBb := Lib.hid hb
          have HOo := Lib.hid ho
          clear hb hR hok ho
          go_wp2
          go_loopw [9] (fun u wr => ∃ s : Nat, s ≤ 3 ∧ u = .int .i64 s ∧ ∃ T os o, ManyG W bg bk bw T os bs (.slice (some ⟨g, 0, none⟩) bs.length pc) wr ∧ I T os ∧ Over os j ∧ os[j]? = some o ∧ leftG T o + s ≤ 3) (fun u _ => 3 - (intOf u).toNat)
          case atStart => exact ⟨0, by omega, rfl, T, os, o, HM.out, HI.out, HO.out, HOo.out, left_le _ _⟩
          case round =>
            obtain ⟨s, hs, rfl, T, os, o, hM, hI, hO, ho, hl⟩ := hrel
            obtain ⟨o2, b2, g2, c2, ho2, hb2, hv2, hc2, hR2, hok2⟩ := hM.get hlt
            rw [ho] at ho2
            cases ho2
            rw [HBb.out] at hb2
            cases hb2
            have HM := Lib.hid hM
            have HI := Lib.hid hI
            have HO := Lib.hid hO
            have HOo := Lib.hid ho
            have HRr := Lib.hid hR2
            have HOK := Lib.hid hok2
            have HL := Lib.hid hl
            clear hM hI hO ho hR2 hok2 hl hc2 hv2
            by_cases h2 : o.ph = 2
            · have HD : Hid (decide (o.ph = 2) = true) := Lib.hid (by simp [h2])
              have HPH := Lib.hid h2
              clear h2
              by_cases hs3 : s < 3
              · have hs4 : (s : Int) < 3 := by omega
                go_wp2_with (go_at_call 20; (with_reducible refine (gdone_at HRr.out HOK.out.ph HD.out).mono ?_); rintro e wx ⟨rfl, rfl⟩)
                go_roundw
                case rel => exact ⟨j + 1, by omega, by go_num, T, os, HM.out, HI.out, HO.out.next HOo.out HPH.out⟩
                case measure => simp [intOf]; omega
              · have hs4 : decide ((s : Int) < 3) = false := by simp; omega
                go_wp2_with (go_at_call 20; (with_reducible refine (gdone_at HRr.out HOK.out.ph HD.out).mono ?_); rintro e wx ⟨rfl, rfl⟩)
                go_roundw
                case rel => exact ⟨j + 1, by omega, by go_num, T, os, HM.out, HI.out, HO.out.next HOo.out HPH.out⟩
                case measure => simp [intOf]; omega
            · have HD : Hid (decide (o.ph = 2) = false) := Lib.hid (by simp [h2])
              have hs3 : s < 3 := by
                rcases Nat.lt_or_ge s 3 with h | h
                · exact h
                · exact absurd (left_none (T := T) HOK.out (by have := HL.out; omega)) h2
              have hs4 : (s : Int) < 3 := by omega
              have HLS := Lib.hid (left_step (T := T) HOK.out h2)
              have HLT : Hid (j < os.length) := Lib.hid (lt_of_get HOo.out)
              clear h2
              go_wp2_with (first
                | (go_at_call 20; (with_reducible refine (gdone_at HRr.out HOK.out.ph HD.out).mono ?_); rintro e wx ⟨rfl, rfl⟩)
                | (go_at_call 19; refine (gstep_op HM.out.one.gau.words HM.out.one.gau.ok HRr.out HOK.out).mono ?_; rintro e w2 ⟨rfl, hW2, hR2, hP2⟩; have HM2 := Lib.hid (HM.out.step HBb.out hW2 (wordG_lt HOK.out HM.out.one.gau.ok) hR2 hP2 (HOK.out.step HM.out.one.gau.ok)); clear hW2 hR2 hP2))
              go_roundw
              case rel => exact ⟨s + 1, by omega, by go_num, _, _, _, HM2.out, HS.out _ _ _ _ HM.out.one.gau.ok HOo.out HOK.out HI.out, HO.out.set (Nat.le_refl _), List.getElem?_set_self HLT.out, by have h1 := HLS.out; have h2 := HL.out; omega⟩
              case measure => simp [intOf]; omega
        · obtain rfl : j = bs.length := by omega
          go_wp2
          go_ret
          exact ⟨rfl, T, os, HM.out, HI.out, HO.out⟩
end Go.Proofs.Ytigknlipeipbgaa
