/- THE WALK of the law 'QuotaSpent'. -/
import Derived.Test.YtddlalljdecdoaaBr
namespace Go.Proofs.Ytddlalljdecdoaa
open Go Go.RowKit
set_option maxRecDepth 100000
set_option maxHeartbeats 1600000
/-- a quota of the call's own; so many were taken -/
structure SpB (W : World) (bq bk bw : Nat) (ba : Int) (n : Nat) (ws : List Int) (T limit : Int) (wr : World) : Prop where
  one : OneB W bq bk bw ba n ws wr
  sum : ws.sum + T = limit
  pos : 0 ≤ T
  lim : limit ≤ 1099511627776
section
variable {W wr w1 : World} {bq bk bw n : Nat} {ba T limit : Int} {ws : List Int}
theorem SpB.on (h : SpB W bq bk bw ba n ws T limit wr) (hb : Below wr.heap.size wr w1) : SpB W bq bk bw ba n ws T limit w1 := ⟨h.one.on hb, h.sum, h.pos, h.lim⟩
theorem SpB.nn (h : SpB W bq bk bw ba n ws T limit wr) : ∀ x ∈ ws, 0 ≤ x := fun x hx => (h.one.quo.words.ok x hx).1
theorem SpB.bound (h : SpB W bq bk bw ba n ws T limit wr) : 0 ≤ ws.sum ∧ T ≤ limit ∧ 0 ≤ limit := by
  have h1 := sum_pos h.nn; have h2 := h.sum; have h3 := h.pos; omega
theorem SpB.call {ws' : List Int} {T' : Int} (h : SpB W bq bk bw ba n ws T limit wr) (hq : QuoM w1 bq bk bw ba ws') (hp : Part [bw] wr w1) (hl : ws'.length = ws.length) (hs : ws'.sum + T' = limit) (ht : 0 ≤ T') : SpB W bq bk bw ba n ws' T' limit w1 :=
  ⟨⟨hq, hl.trans h.one.len, h.one.lo, h.one.low.trans (hp.below h.one.low.size (fun k hk => by rw [List.mem_singleton.1 hk]; exact h.one.lo))⟩, hs, ht, h.lim⟩
/-- what a take leaves -/
def TakenTo (W wr : World) (bq bk bw : Nat) (ba : Int) (n : Nat) (ws : List Int) (T limit : Int) (wk : Nat) (e : Ending) (w1 : World) : Prop :=
  ∃ (tk : Bool) (ws' : List Int), e = .returned (.tuple #[.bool tk, .int .i64 0]) ∧ SpB W bq bk bw ba n ws' (if tk then T + 1 else T) limit w1 ∧ (tk = false → ws' = ws ∧ ws.getD (wk + 1) 0 = 0 ∧ ws.getD 0 0 = 0) ∧ (∀ j, j ≠ wk → ws'.getD (j + 1) 0 = ws.getD (j + 1) 0) ∧ Below W.heap.size W wr
theorem take_sp {wk : Nat} (h : SpB W bq bk bw ba n ws T limit wr) (hw : wk < n) : Calls Try.prog 22 #[.pointer (some ⟨bq, 0, none⟩), .int .i64 (wk : Int)] wr (TakenTo W wr bq bk bw ba n ws T limit wk) := by
  have hlen := h.one.len
  obtain ⟨x, hx⟩ : ∃ x, ws[wk + 1]? = some x := ⟨_, List.getElem?_eq_getElem (by omega)⟩
  obtain ⟨y, hy⟩ : ∃ y, ws[0]? = some y := ⟨_, List.getElem?_eq_getElem (by omega)⟩
  have hx0 := h.nn x (List.mem_of_getElem? hx)
  have hy0 := h.nn y (List.mem_of_getElem? hy)
  have hyu := h.one.quo.words.ok y (List.mem_of_getElem? hy)
  have hlow := h.one.low
  have hsum := h.sum
  have hpos := h.pos
  refine (btake_yes h.one.quo h.one.len hw).mono ?_
  rintro e w1 ⟨rfl, hq, hp⟩
  rcases take_whole hx hy hx0 hy0 hyu h.one.quo.lowb h.one.quo.topb with ⟨h1, hW, hA⟩ | ⟨h1, h2, hW, hA⟩ | ⟨h1, h2, hW, hA⟩
  · rw [hA]; rw [hW] at hq
    refine ⟨true, _, rfl, h.call hq hp (by simp) (by rw [sum_set hx, if_pos rfl]; omega) (by rw [if_pos rfl]; omega), fun e => by simp at e, fun j hj => ?_, hlow⟩
    simp [List.getD_eq_getElem?_getD, List.getElem?_set, show ¬ wk = j by omega]
  · rw [hA]; rw [hW] at hq
    exact ⟨false, _, rfl, h.call hq hp rfl (by rw [if_neg (by simp)]; omega) (by rw [if_neg (by simp)]; omega), fun _ => ⟨rfl, by rw [getD_of hx, h1], by rw [getD_of hy, h2]⟩, fun j _ => rfl, hlow⟩
  · rw [hA]; rw [hW] at hq
    have hx' : (ws.set 0 (y - min ba y))[wk + 1]? = some x := by rw [List.getElem?_set_ne (by omega)]; exact hx
    refine ⟨true, _, rfl, h.call hq hp (by simp) (by rw [sum_set hx', sum_set hy, if_pos rfl]; omega) (by rw [if_pos rfl]; omega), fun e => by simp at e, fun j hj => ?_, hlow⟩
    simp [List.getD_eq_getElem?_getD, List.getElem?_set, show ¬ wk = j by omega]
theorem back_sp {wk : Nat} (h : SpB W bq bk bw ba n ws T limit wr) (hw : wk < n) : Calls Try.prog 23 #[.pointer (some ⟨bq, 0, none⟩), .int .i64 (wk : Int)] wr fun e w1 => (∃ y, e = .returned (.tuple #[.int .i64 y, .int .i64 0])) ∧ ∃ ws', SpB W bq bk bw ba n ws' T limit w1 ∧ ws'.getD (wk + 1) 0 = 0 ∧ ∀ j, j ≠ wk → ws'.getD (j + 1) 0 = ws.getD (j + 1) 0 := by
  have hlen := h.one.len
  obtain ⟨x, hx⟩ : ∃ x, ws[wk + 1]? = some x := ⟨_, List.getElem?_eq_getElem (by omega)⟩
  obtain ⟨y, hy⟩ : ∃ y, ws[0]? = some y := ⟨_, List.getElem?_eq_getElem (by omega)⟩
  have hx0 := h.nn x (List.mem_of_getElem? hx)
  have hy0 := h.nn y (List.mem_of_getElem? hy)
  have hsum := h.sum
  have hpos := h.pos
  have hlm := h.lim
  have hy' : (ws.set (wk + 1) 0)[0]? = some y := by rw [List.getElem?_set_ne (by omega)]; exact hy
  have h2 := sum_set (y := 0) hx
  have h3 := le_sum0 (ws := ws.set (wk + 1) 0) (fun z hz => by rcases List.mem_or_eq_of_mem_set hz with hz | rfl; exact h.nn z hz; omega) hy'
  refine (bback_yes h.one.quo h.one.len hw).mono ?_
  rintro e w1 ⟨rfl, hq, hp⟩
  rw [back_whole hx hy hx0 (by unfold U64; omega)] at hq
  refine ⟨⟨_, rfl⟩, _, h.call hq hp (by simp) (by rw [sum_set hy', h2]; omega) hpos, ?_, fun j hj => ?_⟩
  · simp [List.getD_eq_getElem?_getD, List.getElem?_set]; split <;> simp
  · simp [List.getD_eq_getElem?_getD, List.getElem?_set, show ¬ wk = j by omega]
theorem left_sp (h : SpB W bq bk bw ba n ws T limit wr) : Calls Try.prog 24 #[.pointer (some ⟨bq, 0, none⟩)] wr fun e w1 => e = .returned (.int .i64 (limit - T)) ∧ SpB W bq bk bw ba n ws T limit w1 := by
  have hb := h.bound
  have hs := h.sum
  have hlm := h.lim
  have hp0 := h.pos
  refine (bleft_yes h.one.quo h.one.len).mono ?_
  rintro e w1 ⟨rfl, hq, hp⟩
  rw [left_same] at hq
  refine ⟨?_, h.call hq hp rfl hs h.pos⟩
  rw [left_sum h.nn (by omega) (by have := h.one.len; omega), show ws.sum = limit - T by omega]
end
theorem start_sum0 (limit : Int) (n : Nat) : (startW limit n).sum = limit := by
  have sn : ∀ m : Nat, (List.replicate m (0 : Int)).sum = 0 := fun m => by
    induction m with
    | zero => rfl
    | succ m ih => rw [List.replicate_succ]; simp [ih]
  unfold startW; rw [List.sum_cons, sn]; omega
theorem sum_noughts (m : Nat) : (List.replicate m (0 : Int)).sum = 0 := by
  induction m with
  | zero => rfl
  | succ m ih => rw [List.replicate_succ]; simp [ih]
def flagN : Value → Nat
  | .bool true => 1
  | _ => 0
theorem zero_sum {ws : List Int} (h : ∀ i, i < ws.length → ws.getD i 0 = 0) : ws.sum = 0 := by
  have e : ws = List.replicate ws.length 0 := by
    apply List.ext_getElem (by simp)
    intro i h1 h2
    have := h i h1
    simpa [List.getD, List.getElem?_eq_getElem h1] using this
  rw [e, sum_noughts]
theorem zeros_of {ws : List Int} (hu : ∀ x ∈ ws, 0 ≤ x) (hs : ws.sum = 0) : ws = List.replicate ws.length 0 := by
  apply List.ext_getElem (by simp)
  intro i h1 h2
  have a := le_sum0 hu (List.getElem?_eq_getElem h1)
  have b := hu _ (List.getElem_mem h1)
  simp
  omega
theorem replicate_getD (n i : Nat) : (List.replicate n (0 : Int)).getD i 0 = 0 := by
  simp only [List.getD_eq_getElem?_getD, List.getElem?_replicate]
  split <;> rfl
theorem spent_no {limit ba n : Int} (hf : ¬ FitsB limit ba n) (W : World) :
    Calls Try.prog 8 #[.int .i64 limit, .int .i64 ba, .int .i64 n] W fun e w' => e = .returned (.bool true) ∧ Below W.heap.size W w' := by
  have HF := Lib.hid hf
  clear hf
  go_enter Try.func8, Try.ntmps8
  go_wp2_with (first
    | (go_at_call 12; refine (begins_any _).mono ?_; rintro e w1 ⟨rfl, hb⟩; have HB := Lib.hid hb; clear hb)
    | (go_at_call 10; refine (qnew_no HF.out _).mono ?_; rintro e wx ⟨rfl, rfl⟩))
  go_ret
  exact ⟨rfl, HB.out⟩
set_option maxHeartbeats 6400000
theorem spent_yes {limit ba : Int} {n : Nat} (hf : FitsB limit ba (n : Int)) (W : World) :
    Calls Try.prog 8 #[.int .i64 limit, .int .i64 ba, .int .i64 (n : Int)] W fun e w' => e = .returned (.bool true) ∧ Below W.heap.size W w' := by
  obtain ⟨iu, hiu, hu0, hu1, hu2⟩ := info_parts info29
  have HF := Lib.hid hf
  have HN : Hid (1 ≤ n ∧ n ≤ 64) := Lib.hid (by obtain ⟨_, _, _, _, h5, h6⟩ := hf; omega)
  have HLm : Hid (0 ≤ limit ∧ limit ≤ 1099511627776) := Lib.hid (by obtain ⟨h1, h2, _⟩ := hf; exact ⟨h1, h2⟩)
  have hwn : IntKind.i64.wrap ((n : Int) + 1) = (n : Int) + 1 := by have := HN.out; rw [IntKind.wrap_i64]; omega
  have hmk : ∀ w : World, (Instr.makeSlice 42 (.int .i64 ((n : Int) + 1)) (.int .i64 ((n : Int) + 1))).run Try.prog w = .ok (.slice (some ⟨w.heap.size, 0, none⟩) (n + 1) (n + 1)) (w.alloc (.cells (u64s (List.replicate (n + 1) 0)).toArray 39)) := fun w => by
    have hb := HN.out
    have := run_make (P := Try.prog) w 42 39 iu (.int .u64 0) Try.underlying42 hiu hu0 .i64 .i64 ((n : Int) + 1) ((n : Int) + 1) (by omega) (by omega) (by rw [hu2]; omega) (by omega)
    rw [this, show ((n : Int) + 1).toNat = n + 1 by omega, hu1]
    congr 2
    rw [← noughts29]
  have HMK := Lib.hid hmk
  clear hf hmk
  go_enter Try.func8, Try.ntmps8
  go_upto_region 6 with (first
    | (go_at_call 12; refine (begins_any _).mono ?_; rintro e w0 ⟨rfl, hb⟩; have HB0 := Lib.hid hb; clear hb)
    | (go_at_call 10; refine (qnew_yes HF.out _).mono ?_; rintro e w1 ⟨bq, bk, bw, rfl, hc, hk, hw, hS, hb⟩; have H1 : Hid (SpB W bq bk bw ba n (startW limit n) 0 limit w1) := Lib.hid ⟨OneB.start (n := n) HB0.out hw hS (by simp [startW]) hb, by rw [start_sum0]; omega, by omega, HLm.out.2⟩; clear hc hk hw hS hb))
  by_cases hbig : 1000 < limit
  · have hd : decide (1000 < limit) = true := by simpa using hbig
    go_wp2_with (go_at_call 24; (with_reducible refine (left_sp H1.out).mono ?_); rw [show limit - 0 = limit by omega]; rintro e w2 ⟨rfl, h2⟩; have H2 := Lib.hid h2; clear h2)
    go_ret
    exact ⟨by simp, H2.out.one.low⟩
  · have hd : decide (1000 < limit) = false := by simpa using hbig
    have HSM : Hid (limit ≤ 1000) := Lib.hid (by omega)
    go_wp2
    go_loopw [9, 10] (fun t u wr => ∃ j : Nat, j ≤ n ∧ u = .int .i64 j ∧ ∃ T ws, t = .int .i64 T ∧ SpB W bq bk bw ba n ws T limit wr) (fun _ u _ => n - (intOf u).toNat)
    case atStart => exact ⟨0, Nat.zero_le _, rfl, 0, _, rfl, H1.out⟩
    case round =>
      obtain ⟨j, hj, rfl, T, ws, rfl, hS⟩ := hrel
      have HS := Lib.hid hS
      have hn64 := HN.out
      clear hS
      by_cases hlt : j < n
      · have hlt2 : (j : Int) < (n : Int) := by omega
        go_wp2
        go_loopw [9, 11] (fun t u wr => ∃ m : Nat, m ≤ 3 ∧ u = .int .i64 m ∧ ∃ T ws, t = .int .i64 T ∧ SpB W bq bk bw ba n ws T limit wr) (fun _ u _ => 3 - (intOf u).toNat)
        case atStart => exact ⟨0, Nat.zero_le _, rfl, T, _, rfl, HS.out⟩
        case round =>
          obtain ⟨m, hm, rfl, T, ws, rfl, hS⟩ := hrel
          have HS := Lib.hid hS
          have hTb := hS.bound
          have hTp := hS.pos
          have hadd : IntKind.i64.wrap (T + 1) = T + 1 := by have := HSM.out; rw [IntKind.wrap_i64]; omega
          clear hS
          by_cases hm3 : m < 3
          · have hm2 : (m : Int) < 3 := by omega
            go_upto_region 16 with (go_at_call 22; (with_reducible refine (take_sp HS.out hlt).mono ?_); rintro e w3 ⟨tk, ws', rfl, h3, _, _, _⟩; have H3 := Lib.hid h3; clear h3)
            cases tk with
            | true =>
              go_wp2
              go_roundw
              case rel => exact ⟨m + 1, by omega, by go_num, T + 1, ws', rfl, H3.out⟩
              case measure => simp [intOf]; omega
            | false =>
              go_wp2
              go_roundw
              case rel => exact ⟨m + 1, by omega, by go_num, T, ws', rfl, H3.out⟩
              case measure => simp [intOf]; omega
          · obtain rfl : m = 3 := by omega
            go_wp2
            go_roundw
            case rel => exact ⟨j + 1, by omega, by go_num, T, ws, rfl, HS.out⟩
            case measure => simp [intOf]; omega
      · obtain rfl : j = n := by omega
        have hTb := HS.out.bound
        have hTp := HS.out.pos
        have hsub : IntKind.i64.wrap (limit - T) = limit - T := by have := HSM.out; rw [IntKind.wrap_i64]; omega
        go_wp2_with (go_at_call 24; (with_reducible refine (left_sp HS.out).mono ?_); rintro e w2 ⟨rfl, h2⟩; have H2 := Lib.hid h2; clear h2)
        go_loopw [14] (fun u wr => ∃ i : Nat, i ≤ j ∧ u = .int .i64 i ∧ ∃ ws, SpB W bq bk bw ba j ws T limit wr ∧ ∀ z, z < i → ws.getD (z + 1) 0 = 0) (fun u _ => j - (intOf u).toNat)
        case atStart => exact ⟨0, Nat.zero_le _, rfl, _, H2.out, fun z hz => by omega⟩
        case round =>
          obtain ⟨i, hi, rfl, ws3, hS, hZ⟩ := hrel
          have HS3 := Lib.hid hS
          have HZ := Lib.hid hZ
          clear hS hZ
          by_cases hlt3 : i < j
          · have hlt4 : (i : Int) < (j : Int) := by omega
            go_wp2_with (go_at_call 23; (with_reducible refine (back_sp HS3.out hlt3).mono ?_); rintro e w3 ⟨⟨yb, rfl⟩, ws', h3, h4, h5⟩; have H3 := Lib.hid h3; have H4 := Lib.hid h4; have H5 := Lib.hid h5; clear h3 h4 h5)
            go_roundw
            case rel => exact ⟨i + 1, by omega, by go_num, ws', H3.out, fun z hz => by
              by_cases e : z = i
              · subst e; exact H4.out
              · rw [H5.out z e]; exact HZ.out z (by omega)⟩
            case measure => simp [intOf]; omega
          · obtain rfl : i = j := by omega
            go_wp2
            go_loopw [9, 15] (fun t u wr => ∃ m : Nat, m ≤ i ∧ u = .int .i64 m ∧ ∃ T ws, t = .int .i64 T ∧ SpB W bq bk bw ba i ws T limit wr ∧ (∀ z, z < i → ws.getD (z + 1) 0 = 0) ∧ (0 < m → ws.sum = 0)) (fun _ u _ => i - (intOf u).toNat)
            case atStart => exact ⟨0, Nat.zero_le _, rfl, T, ws3, rfl, HS3.out, HZ.out, fun h => by omega⟩
            case round =>
              obtain ⟨m, hm, rfl, T5, ws5, rfl, hS, hZ, hM⟩ := hrel
              have HS5 := Lib.hid hS
              have HZ5 := Lib.hid hZ
              have HM5 := Lib.hid hM
              clear hS hZ hM
              by_cases hlt5 : m < i
              · have hlt6 : (m : Int) < (i : Int) := by omega
                go_wp2
                go_loopw [9, 16] (fun t o wr => ∃ (T : Int) (ws : List Int) (ok : Bool), t = .int .i64 T ∧ o = .bool ok ∧ SpB W bq bk bw ba i ws T limit wr ∧ (∀ z, z < i → z ≠ m → ws.getD (z + 1) 0 = 0) ∧ (ok = false → ws.sum = 0)) (fun t o _ => (limit - intOf t).toNat * 2 + flagN o)
                case atStart => exact ⟨T5, ws5, true, rfl, rfl, HS5.out, fun z hz _ => HZ5.out z hz, fun h => by simp at h⟩
                case round =>
                  obtain ⟨T6, ws6, ok, rfl, rfl, hS, hZ, hok⟩ := hrel
                  have HS6 := Lib.hid hS
                  have HZ6 := Lib.hid hZ
                  have hTb := hS.bound
                  have hTp := hS.pos
                  have hadd : IntKind.i64.wrap (T6 + 1) = T6 + 1 := by have := HSM.out; rw [IntKind.wrap_i64]; omega
                  have hle : decide (T6 ≤ limit) = true := by simpa using hTb.2.1
                  clear hS hZ
                  cases ok with
                  | true =>
                    go_upto_region 32 with (go_at_call 22; (with_reducible refine (take_sp HS6.out hlt5).mono ?_); rintro e w3 ⟨tk, ws', rfl, h3, h4, h5, _⟩; have H3 := Lib.hid h3; have H4 := Lib.hid h4; have H5 := Lib.hid h5; clear h3 h4 h5)
                    cases tk with
                    | true =>
                      go_wp2
                      go_roundw
                      case rel => exact ⟨T6 + 1, ws', true, rfl, rfl, H3.out, fun z hz hzm => by rw [H5.out z hzm]; exact HZ6.out z hz hzm, fun h => by simp at h⟩
                      case measure =>
                        have hT7 := H3.out.bound
                        simp [intOf, flagN] at hT7 ⊢
                        omega
                    | false =>
                      go_wp2
                      go_roundw
                      case rel =>
                        obtain ⟨e1, e2, e3⟩ := H4.out rfl
                        subst e1
                        refine ⟨T6, _, false, rfl, rfl, H3.out, fun z hz hzm => HZ6.out z hz hzm, fun _ => zero_sum (fun q hq => ?_)⟩
                        have hl := HS6.out.one.len
                        cases q with
                        | zero => exact e3
                        | succ q =>
                          by_cases e : q = m
                          · subst e; exact e2
                          · exact HZ6.out q (by omega) e
                      case measure => simp [intOf, flagN]
                  | false =>
                    have HS0 := Lib.hid (hok rfl)
                    go_wp2
                    go_roundw
                    case rel => exact ⟨m + 1, by omega, by go_num, T6, ws6, rfl, HS6.out, fun z hz => by rw [zeros_of HS6.out.nn HS0.out]; exact replicate_getD _ _, fun _ => HS0.out⟩
                    case measure => simp [intOf]; omega
              · obtain rfl : m = i := by omega
                have hs0 := HM5.out (by have := HN.out; omega)
                have hTl : T5 = limit := by have := HS5.out.sum; omega
                subst hTl
                have hwz := zeros_of HS5.out.nn hs0
                rw [HS5.out.one.len] at hwz
                have HWZ := Lib.hid hwz
                have HS7 : Hid (SpB W bq bk bw ba m (List.replicate (m + 1) 0) T5 T5 _) := Lib.hid (by rw [← hwz]; exact HS5.out)
                go_upto_region 36 with fail
                have hmk := HMK.out
                go_region_with (first
                  | (go_at_call 24; (with_reducible refine (left_sp (HS7.out.on (Below.refl _ _).drew)).mono ?_); rw [show T5 - T5 = 0 by omega]; rintro e w6 ⟨rfl, h6⟩; have H6 := Lib.hid h6; clear h6)
                  | (go_at_call 21; (with_reducible refine (qall_any H6.out.one.quo).mono ?_); rintro e w7 ⟨g1, rfl, hg, hr7, hb7⟩; have HR7 := Lib.hid hr7; have H7 := Lib.hid (H6.out.on hb7); clear hg hr7 hb7)
                  | (go_at_call 21; (with_reducible refine (qall_any (H6.out.one.quo.alloc _)).mono ?_); rintro e w8 ⟨g1, rfl, hg, hr8, hb8⟩; have HR8 := Lib.hid hr8; have HZ8 := Lib.hid ((Row.new w6 39 (u64s (List.replicate (m + 1) 0))).below hb8 (by simp)); have H8 := Lib.hid ((H6.out.on ((Below.refl w6.heap.size w6).alloc (Nat.le_refl _) _)).on hb8); clear hg hr8 hb8)
                  | (go_at_call 20; (with_reducible refine (same_yes (HR7.out.alloc _).lies (Row.new w7 39 (u64s (List.replicate (m + 1) 0))).lies (by have := HN.out; simp; omega) (by simp) (by simp)).mono ?_); rintro e w9 ⟨rfl, hb9⟩; have H9 := Lib.hid ((H7.out.on ((Below.refl w7.heap.size w7).alloc (Nat.le_refl _) _)).on hb9); clear hb9)
                  | (go_at_call 20; (with_reducible refine (same_yes HR8.out.lies HZ8.out.lies (by have := HN.out; simp; omega) (by simp) (by simp)).mono ?_); rintro e w9 ⟨rfl, hb9⟩; have H9 := Lib.hid (H8.out.on hb9); clear hb9))
                all_goals
                  go_wp2_with fail
                  go_ret
                  exact ⟨rfl, H9.out.one.low⟩
end Go.Proofs.Ytddlalljdecdoaa
