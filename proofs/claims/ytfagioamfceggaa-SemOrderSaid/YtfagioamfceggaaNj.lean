/- THE WALK of the law 'SemOrder'. -/
import Derived.Test.YtfagioamfceggaaNi
import Derived.Test.YtfagioamfceggaaEx
namespace Go.Proofs.Ytfagioamfceggaa
open Go Go.RowKit

theorem ptrs_len (bs : List Nat) : (ptrs bs).length = bs.length := by simp [ptrs]
theorem bs_not {w _w5 : World} {lo bsem bp : Nat} {os : List OpS} {bs : List Nat} (h : PendsS w lo bsem os bs) (hn : w.heap.size ≤ bp) : bp ∉ bs := fun hm => by
  obtain ⟨l, hl⟩ := h.at_ hm
  have := hl.lt
  omega
set_option maxRecDepth 100000
theorem sorder_no {pl n : Int} (hn : pl < 1 ∨ 1000 < pl ∨ n < 1 ∨ 1000 < n) {B : Option Addr} {len' cap' : Nat} (W : World) :
    Calls Try.prog 5 #[.int .i64 pl, .int .i64 n, .slice B len' cap'] W fun e w' => e = .returned (.bool true) ∧ Below W.heap.size W w' := by
  by_cases a : pl < 1
  · clear hn
    go_enter Try.func5, Try.ntmps5
    go_wp2_with (go_at_call 6; refine (lives_any _).mono ?_; rintro e w0 ⟨rfl, hb⟩; have HB0 := Lib.hid hb; clear hb)
    go_ret
    exact ⟨rfl, HB0.out⟩
  by_cases b : 1000 < pl
  · clear hn
    go_enter Try.func5, Try.ntmps5
    go_wp2_with (go_at_call 6; refine (lives_any _).mono ?_; rintro e w0 ⟨rfl, hb⟩; have HB0 := Lib.hid hb; clear hb)
    go_ret
    exact ⟨rfl, HB0.out⟩
  by_cases c : n < 1
  · clear hn
    go_enter Try.func5, Try.ntmps5
    go_wp2_with (go_at_call 6; refine (lives_any _).mono ?_; rintro e w0 ⟨rfl, hb⟩; have HB0 := Lib.hid hb; clear hb)
    go_ret
    exact ⟨rfl, HB0.out⟩
  have d : 1000 < n := by omega
  clear hn
  go_enter Try.func5, Try.ntmps5
  go_wp2_with (go_at_call 6; refine (lives_any _).mono ?_; rintro e w0 ⟨rfl, hb⟩; have HB0 := Lib.hid hb; clear hb)
  go_ret
  exact ⟨rfl, HB0.out⟩
set_option maxHeartbeats 12800000
theorem sorder_yes {m n : Nat} (h1 : 1 ≤ m) (h2 : m ≤ 1000) (h3 : 1 ≤ n) (h4 : n ≤ 1000) {B : Option Addr} {cap' : Nat} {ks : List Int} (W : World) (hX : Ext .i64 W B ks) (hr3 : ks.length * 8 ≤ 140737488351232) :
    Calls Try.prog 5 #[.int .i64 (m : Int), .int .i64 (n : Int), .slice B ks.length cap'] W fun e w' => e = .returned (.bool true) ∧ Below W.heap.size W w' := by
  obtain ⟨ip, hip, hp0, hp1, hp2⟩ := info_parts infoPS
  obtain ⟨iB, hiB, hB0, hB1, hB2⟩ := info_parts infoBS
  obtain ⟨iI, hiI, hI0, hI1, hI2⟩ := info_parts infoIS
  have HXS := Lib.hid hX
  have HPL : Hid ((0 : Int) ≤ (m : Int) ∧ (m : Int) ≤ 1000) := Lib.hid (by omega)
  clear hX
  go_enter Try.func5, Try.ntmps5
  go_wp2_with (first
    | (go_at_call 6; refine (lives_any _).mono ?_; rintro e w0 ⟨rfl, hb⟩; have HB0 := Lib.hid hb; clear hb)
    | (go_at_call 7; refine (snew_yes w0 (n := m) h1 (by omega)).mono ?_; rintro e w1 ⟨bsem, bk, bw, rfl, _, _, hbw, hS, hb⟩; have HA1 : Hid (CrowdS W bsem bk bw (m : Int) 0 0 (List.replicate 0 (newS 1)) [] (.slice none 0 0) w1) := Lib.hid ⟨hS, World.ownsRow_nil _ _ _ _, ⟨rfl, by simp, by simp, by simp⟩, Nat.le_trans HB0.out.size hbw, HB0.out.trans (hb.mono HB0.out.size)⟩; clear hbw hS hb))
  go_loopw [9, 10] (fun vp i wr => ∃ j : Nat, j ≤ n ∧ i = .int .i64 j ∧ ∃ bs, bs.length = j ∧ (j = 0 → vp = .slice none 0 0) ∧ CrowdS W bsem bk bw (m : Int) 0 0 (List.replicate j (newS 1)) bs vp wr ∧ (∀ z, vp.ownBlock = some z → ∀ w2, Part [z] wr w2 → PendsS w2 W.heap.size bsem (List.replicate j (newS 1)) bs)) (fun _ i _ => n - (intOf i).toNat)
  case atStart => exact ⟨0, Nat.zero_le _, rfl, [], rfl, fun _ => rfl, HA1.out, fun z hz => by simp [Value.ownBlock] at hz⟩
  case round =>
    obtain ⟨j, hj, rfl, bs, hbj, hnil, hA, hfirm⟩ := hrel
    have HA := Lib.hid hA
    have HBJ := Lib.hid hbj
    have HFI := Lib.hid hfirm
    have HNI := Lib.hid hnil
    clear hA hbj hfirm HA1 HB0 hnil
    by_cases hlt : j < n
    · have hlt2 : (j : Int) < (n : Int) := by omega
      have hbl : bs.length + 1 ≤ 1000 := by have := HBJ.out; omega
      have H3 : Hid (bs.length + 1 ≤ maxLen) := Lib.hid (by unfold maxLen; omega)
      have H4 : Hid ((bs.length + 1) * 8 ≤ 140737488355328) := Lib.hid (by omega)
      have HRS : Hid (List.replicate (j + 1) (newS 1) = List.replicate j (newS 1) ++ [newS 1]) := Lib.hid (List.replicate_succ' ..)
      clear hbl
      by_cases hj0 : j = 0
      · subst hj0
        obtain rfl := HNI.out rfl
        have hb0 : bs = [] := List.eq_nil_of_length_eq_zero HBJ.out
        subst hb0
        go_wp2_with (first
          | (go_at_call 8; (with_reducible refine sstart_new.mono ?_); rintro e w5 ⟨bp, rfl, hn5, hlt5, hne5, hb5⟩; have HN5 := Lib.hid hn5; have HLT5 := Lib.hid hlt5; have HE5 := Lib.hid hne5; have HB5 := Lib.hid hb5; have HA5 := Lib.hid (HA.out.on hb5); have H5 : Hid (W.heap.size ≤ (w5.alloc (.cells #[.pointer (some ⟨bp, 0, none⟩)] 35)).heap.size) := Lib.hid (by have := HA5.out.low.size; simp; omega); clear hn5 hlt5 hne5 hb5)
          | (at_builtin; refine wpList_append_own _ rfl _ _ 32 rfl ((w5.alloc (.cells #[.pointer (some ⟨bp, 0, none⟩)] 35)).heap.size) 35 ip (.pointer none) 1 8 Try.underlying32 hip hp0 hp1 hp2 rfl (by decide) (.slice none 0 0) 0 [] rfl (World.ownsRow_nil _ _ _ _) ⟨w5.heap.size, 0, none⟩ 1 1 [.pointer (some ⟨bp, 0, none⟩)] rfl rfl (new_cells _ _ _) (one_ptr _) H3.out H4.out (Nat.le_refl _) ?_; intro vp' w7 hown7 hgr7 _; have HO7 := Lib.hid hown7; have HG7 := Lib.hid hgr7; clear hown7 hgr7))
        have hb7 : Below w5.heap.size w5 w7 := (below_alloc (.cells #[.pointer (some ⟨bp, 0, none⟩)] 35)).trans (((Below.refl _ _).grown HG7.out (Nat.le_refl _) (by simp [Value.ownBlock])).mono (by simp))
        have HA7 := HA5.out.on hb7
        have hz7 : ∀ z, vp'.ownBlock = some z → w5.heap.size + 1 ≤ z := fun z hz => by have := own_from HO7.out z hz; simpa using this
        have hpn : ∀ w2, (∃ S, (∀ q ∈ S, q < wr.heap.size ∨ w5.heap.size ≤ q) ∧ Part S w5 w2) → PendsS w2 W.heap.size bsem (List.replicate (0 + 1) (newS 1)) [bp] := fun w2 ⟨S, hS, hP⟩ => by
          have hP' : Part (S.filter (· < wr.heap.size)) w5 w2 := hP.mono fun k hk hm => by
            rcases hS k hm with h | h
            · simp [hm, h]
            · omega
          obtain ⟨nx, hr, hx⟩ := HE5.out (S.filter (· < wr.heap.size)) w2 (fun q hq => by simp at hq; exact hq.2) hP'
          have hz : PendsS w2 W.heap.size bsem [] [] := ⟨rfl, by simp, by simp, by simp⟩
          exact hz.snoc ⟨nx, 0, 0, hr, hx⟩ (by simp) (Nat.le_trans HA.out.low.size HN5.out)
        have HZ := Lib.hid hz7
        have HPN := Lib.hid hpn
        have HB7 := Lib.hid hb7
        have HA7' := Lib.hid HA7
        clear hb7 HA7 hz7 hpn
        go_roundw
        case rel => exact ⟨0 + 1, by omega, by go_num, [bp], rfl, fun h => by omega, ⟨HA7'.out.sem, own_base HO7.out H5.out, HPN.out w7 ⟨[], by simp, Part.of_below HB7.out (Nat.le_refl _) []⟩, HA7'.out.lo, HA7'.out.low⟩, fun z hz w2 hP => HPN.out w2 ⟨[z], fun q hq => by rw [List.mem_singleton.1 hq]; have := HZ.out z hz; exact .inr (by omega), Part.trans (S' := [z]) (Part.of_below HB7.out (Nat.le_refl _) [z]) hP (fun _ _ h => h)⟩⟩
        case measure => simp [intOf]; omega
      · obtain ⟨g0, c0, hv0, _, hg0⟩ := own_some HA.out.ps (by have := HBJ.out; omega)
        subst hv0
        have HG0 := Lib.hid hg0
        clear hg0
        go_wp2_with (first
          | (go_at_call 8; (with_reducible refine sstart_new.mono ?_); rintro e w5 ⟨bp, rfl, hn5, hlt5, hne5, hb5⟩; have HN5 := Lib.hid hn5; have HLT5 := Lib.hid hlt5; have HE5 := Lib.hid hne5; have HB5 := Lib.hid hb5; have HA5 := Lib.hid (HA.out.on hb5); have H5 : Hid (W.heap.size ≤ (w5.alloc (.cells #[.pointer (some ⟨bp, 0, none⟩)] 35)).heap.size) := Lib.hid (by have := HA5.out.low.size; simp; omega); clear hn5 hlt5 hne5 hb5)
          | (at_builtin; refine wpList_append_own _ rfl _ _ 32 rfl (W.heap.size) 35 ip (.pointer none) 1 8 Try.underlying32 hip hp0 hp1 hp2 rfl (by decide) _ _ _ rfl (HA5.out.ps.alloc _) ⟨w5.heap.size, 0, none⟩ 1 1 [.pointer (some ⟨bp, 0, none⟩)] rfl rfl (new_cells _ _ _) (one_ptr _) H3.out H4.out H5.out ?_; intro vp' w7 hown7 hgr7 _; have HO7 := Lib.hid hown7; have HG7 := Lib.hid hgr7; clear hown7 hgr7))
        have hP7 : Part [g0] w5 w7 := Part.grown ((Part.refl [g0] w5).alloc _) HG7.out (fun k hk _ => by cases hk; simp)
        have hpn : ∀ w2, Part [g0] w5 w2 → PendsS w2 W.heap.size bsem (List.replicate (j + 1) (newS 1)) (bs ++ [bp]) := fun w2 hP => by
          have h0 := HFI.out g0 rfl w2 (Part.trans (S' := [g0]) (Part.of_below HB5.out (Nat.le_refl _) [g0]) hP (fun _ _ h => h))
          obtain ⟨nx, hr, hx⟩ := HE5.out [g0] w2 (fun q hq => by rw [List.mem_singleton.1 hq]; exact HG0.out) hP
          rw [HRS.out]
          refine h0.snoc ⟨nx, 0, 0, hr, hx⟩ (fun hm => ?_) (Nat.le_trans HA.out.low.size HN5.out)
          obtain ⟨l, hl⟩ := HA.out.pends.at_ hm
          have := hl.lt
          have := HN5.out
          omega
        have hp7 := hpn w7 hP7
        have hsem7 : SemM w7 bsem bk bw (m : Int) 0 0 := ⟨HA5.out.sem.head.part hP7 (not_sing (fun e => own_off HA5.out.ps HA5.out.sem.head (by decide) g0 rfl e.symm)), HA5.out.sem.words.part hP7 (not_sing (fun e => own_off HA5.out.ps HA5.out.sem.words.head (by decide) g0 rfl e.symm)) (not_sing (fun e => own_off HA5.out.ps HA5.out.sem.words.row (by decide) g0 rfl e.symm))⟩
        have hlow7 : Below W.heap.size W w7 := HA5.out.low.trans (hP7.below HA5.out.low.size (fun k hk => by rw [List.mem_singleton.1 hk]; exact own_from HA5.out.ps g0 rfl))
        have hfi7 : ∀ z, vp'.ownBlock = some z → ∀ w2, Part [z] w7 w2 → PendsS w2 W.heap.size bsem (List.replicate (j + 1) (newS 1)) (bs ++ [bp]) := fun z hz w2 hP => by
          have hown := HO7.out
          obtain ⟨a7, c7, rfl⟩ := own_form hown
          cases a7 with
          | none => cases hz
          | some ad =>
            rcases hown.2 with ⟨hv, _⟩ | ⟨g7, cap7, cur7, hv, _⟩
            · cases hv
            · cases hv
              cases hz
              obtain ⟨l7, hl7, hlen7⟩ := own_row hown
              refine hp7.part hP (fun q hq => ?_) (fun b hb => ?_)
              · rw [List.mem_singleton.1 hq]
                refine ⟨_, l7, hl7, .inr (.inr (.inr (.inr (.inr ⟨rfl, ?_⟩))))⟩
                have := HBJ.out
                omega
              · obtain ⟨l, hl⟩ := hp7.at_ hb
                exact not_sing (hl.ne hl7 (by decide))
        have HREL := Lib.hid (And.intro hp7 (And.intro hsem7 (And.intro hlow7 hfi7)))
        clear hP7 hpn hp7 hsem7 hlow7 hfi7
        go_roundw
        case rel => exact ⟨j + 1, by omega, by go_num, bs ++ [bp], by rw [List.length_append, List.length_singleton, HBJ.out], fun h => by omega, ⟨HREL.out.2.1, by rw [List.length_append, List.length_singleton, ← ptrs_snoc]; exact HO7.out, HREL.out.1, HA.out.lo, HREL.out.2.2.1⟩, HREL.out.2.2.2⟩
        case measure => simp [intOf]; omega
    · obtain rfl : j = n := by omega
      have hnb : iB.bytes * j ≤ 281474976710656 := by rw [hB2]; omega
      have hnm : j ≤ maxLen := by unfold maxLen; omega
      obtain ⟨gp, cp, hvp, _, hgp⟩ := own_some HA.out.ps (by have := HBJ.out; omega)
      subst hvp
      have hbl := HBJ.out
      clear hgp
      go_wp2_with (at_make; refine wpList_make_full _ rfl _ _ 54 rfl W.heap.size 4 iB (.bool false) 1 Try.underlying54 hiB hB0 hB1 .i64 .i64 j j j rfl rfl rfl rfl hnb hnm HA.out.low.size ?_; intro w7 hown7 hgr7; rw [boolsS_none] at hown7; have HF7 := Lib.hid hown7; have HA7 := Lib.hid (HA.out.on ((Below.refl _ _).grown hgr7 (Nat.le_refl _) (by simp))); clear hown7 hgr7)
      obtain ⟨gf, hgf⟩ : ∃ gf, wr.heap.size = gf := ⟨_, rfl⟩
      rw [hgf] at HF7 ⊢
      clear hgf HA HFI HNI
      go_loopw [14, 74] (fun vq i wr => ∃ j2 : Nat, j2 ≤ ks.length ∧ i = .int .i64 j2 ∧ ∃ d g os dr qu, OrdN (m : Int) j d g os dr qu ∧ CrowdS W bsem bk bw (m : Int) d g os bs (.slice (some ⟨gp, 0, none⟩) bs.length cp) wr ∧ wr.ownsRow W.heap.size 4 1 (.slice (some ⟨gf, 0, none⟩) j j) j (boolsS dr) ∧ wr.ownsRow W.heap.size 3 1 vq qu.length (quV qu)) (fun _ i _ => ks.length - (intOf i).toNat)
      case atStart => exact ⟨0, Nat.zero_le _, rfl, 0, 0, _, _, [], OrdN.start, HA7.out, HF7.out, World.ownsRow_nil _ _ _ _⟩
      case round =>
        obtain ⟨j2, hj2, rfl, d, g, os, dr, qu, hO, hA, hF, hQ⟩ := hrel
        have HO := Lib.hid hO
        have HA := Lib.hid hA
        have HF := Lib.hid hF
        have HQ := Lib.hid hQ
        clear hO hA hF hQ HA7 HF7
        obtain ⟨aq, cq, rfl⟩ := own_form HQ.out
        by_cases hlt2 : j2 < ks.length
        · obtain ⟨k, hk⟩ : ∃ k, ks[j2]? = some k := ⟨ks[j2], List.getElem?_eq_getElem hlt2⟩
          obtain ⟨b, o, rfl, hbx, e0⟩ := (HXS.out.on HA.out.low) j2 _ hk
          have hlt3 : (j2 : Int) < (ks.length : Int) := by omega
          have hj8 : j2 ≤ 17592186043904 := by omega
          clear hk
          by_cases hout : k < 0 ∨ (j : Int) ≤ k
          · have hgiv := HO.out.giv
            have hnum := HO.out.num
            have hfew := HO.out.few
            by_cases hgd : g < d
            · have HGD := Lib.hid hgd
              have hug := up_small (x := g) (by omega) (by omega)
              have HUG := Lib.hid hug
              clear hgiv hnum hfew hgd hug
              rcases hout with hout | hout
              · go_wp2_with (go_at_call 20; (with_reducible refine (sleave_ok HA.out.sem HGD.out).mono ?_); rintro e w5 hs; have hs' := up_at hs rfl HUG.out; have HC5 := Lib.hid (HA.out.whole hs'); have HF5 := Lib.hid (own_part HF.out hs'.2.2 (fun z hz => not_sing (own_off HF.out HA.out.sem.words.row (by decide) z hz))); have HQ5 := Lib.hid (own_part HQ.out hs'.2.2 (fun z hz => not_sing (own_off HQ.out HA.out.sem.words.row (by decide) z hz))); obtain ⟨rfl, _⟩ := hs; clear hs')
                go_roundw
                case rel => exact ⟨j2 + 1, by omega, by go_num, d, g + 1, os, dr, qu, HO.out.back HGD.out, HC5.out, HF5.out, HQ5.out⟩
                case measure => simp [intOf]; omega
              · go_wp2_with (go_at_call 20; (with_reducible refine (sleave_ok HA.out.sem HGD.out).mono ?_); rintro e w5 hs; have hs' := up_at hs rfl HUG.out; have HC5 := Lib.hid (HA.out.whole hs'); have HF5 := Lib.hid (own_part HF.out hs'.2.2 (fun z hz => not_sing (own_off HF.out HA.out.sem.words.row (by decide) z hz))); have HQ5 := Lib.hid (own_part HQ.out hs'.2.2 (fun z hz => not_sing (own_off HQ.out HA.out.sem.words.row (by decide) z hz))); obtain ⟨rfl, _⟩ := hs; clear hs')
                go_roundw
                case rel => exact ⟨j2 + 1, by omega, by go_num, d, g + 1, os, dr, qu, HO.out.back HGD.out, HC5.out, HF5.out, HQ5.out⟩
                case measure => simp [intOf]; omega
            · have HGD : Hid (d ≤ g) := Lib.hid (by omega)
              clear hgiv hnum hfew hgd
              rcases hout with hout | hout
              · go_wp2_with (go_at_call 20; (with_reducible refine (sleave_free HA.out.sem HGD.out).mono ?_); rintro e w5 hs; have hs' := hs; have HC5 := Lib.hid (HA.out.whole hs'); have HF5 := Lib.hid (own_part HF.out hs'.2.2 (fun z hz => not_sing (own_off HF.out HA.out.sem.words.row (by decide) z hz))); have HQ5 := Lib.hid (own_part HQ.out hs'.2.2 (fun z hz => not_sing (own_off HQ.out HA.out.sem.words.row (by decide) z hz))); obtain ⟨rfl, _⟩ := hs; clear hs')
                go_roundw
                case rel => exact ⟨j2 + 1, by omega, by go_num, d, g, os, dr, qu, HO.out, HC5.out, HF5.out, HQ5.out⟩
                case measure => simp [intOf]; omega
              · go_wp2_with (go_at_call 20; (with_reducible refine (sleave_free HA.out.sem HGD.out).mono ?_); rintro e w5 hs; have hs' := hs; have HC5 := Lib.hid (HA.out.whole hs'); have HF5 := Lib.hid (own_part HF.out hs'.2.2 (fun z hz => not_sing (own_off HF.out HA.out.sem.words.row (by decide) z hz))); have HQ5 := Lib.hid (own_part HQ.out hs'.2.2 (fun z hz => not_sing (own_off HQ.out HA.out.sem.words.row (by decide) z hz))); obtain ⟨rfl, _⟩ := hs; clear hs')
                go_roundw
                case rel => exact ⟨j2 + 1, by omega, by go_num, d, g, os, dr, qu, HO.out, HC5.out, HF5.out, HQ5.out⟩
                case measure => simp [intOf]; omega
          obtain ⟨q, rfl⟩ := Int.eq_ofNat_of_zero_le (show 0 ≤ k by omega)
          have hqj : q < j := by omega
          have hqj2 : (q : Int) < (j : Int) := by omega
          have hqb2 : (q : Int) < (bs.length : Int) := by omega
          clear hout
          obtain ⟨bp, hb⟩ : ∃ bp, bs[q]? = some bp := ⟨bs[q]'(by omega), List.getElem?_eq_getElem _⟩
          obtain ⟨oq, ho⟩ : ∃ oq, os[q]? = some oq := ⟨os[q]'(by rw [HO.out.len]; omega), List.getElem?_eq_getElem _⟩
          obtain ⟨fb, hfb⟩ : ∃ fb, dr[q]? = some fb := ⟨dr[q]'(by rw [HO.out.ldr]; omega), List.getElem?_eq_getElem _⟩
          obtain ⟨nx, an, wy, hrow, hnx⟩ := HA.out.pends.row q oq bp ho hb
          have pc := own_cell HA.out.ps (ptrs_get hb)
          have gplt := own_block HA.out.ps gp rfl
          obtain ⟨x0, x1, x2, x3, x4, hdid⟩ := did_five_s d g oq
          have HBq := Lib.hid hb
          have HOq := Lib.hid ho
          have HFb := Lib.hid hfb
          have HROW := Lib.hid hrow
          have HNX := Lib.hid hnx
          have HDID := Lib.hid hdid
          have HBL2 := Lib.hid hbl
          clear hb ho hfb hrow hnx hdid
          cases fb with
          | false =>
            obtain ⟨hnew, hdraw⟩ := HO.out.draw HOq.out HFb.out
            subst hnew
            have HDR := Lib.hid hdraw
            have hsd : stepD d (newS 1) = d + 1 := by have h5 := HO.out.giv; have h6 := HO.out.num; have h7 := HO.out.few; simp only [stepD, newS]; exact up_small (by omega) (by omega)
            have HSD := Lib.hid hsd
            have hquj : qu.length + 1 ≤ j := by have := HDR.out.few; rw [List.length_append, List.length_singleton] at this; exact this
            have H3 : Hid (qu.length + 1 ≤ maxLen) := Lib.hid (by unfold maxLen; omega)
            have H4 : Hid ((qu.length + 1) * 8 ≤ 140737488355328) := Lib.hid (by omega)
            have HST1 : Hid (stepS (m : Int) d g (newS 1) = ⟨1, 1, d, 0, 0, 0⟩) := Lib.hid (by simp [stepS, newS])
            clear hsd hdraw hquj
            go_upto_region 24 with (go_at_call 12; (with_reducible refine (sstep_at HROW.out HNX.out HA.out.sem HST1.out HSD.out rfl HDID.out (show decide ((OpS.mk 1 1 d 0 0 0).ph = 9) = false from rfl)).mono ?_); rintro e w5 hs; have HC5 := Lib.hid (HA.out.step HBq.out hs); have HF5 := Lib.hid (own_step HA.out HBq.out hs HF.out (by decide) (by decide)); have HQ5 := Lib.hid (own_step HA.out HBq.out hs HQ.out (by decide) (by decide)); obtain ⟨rfl, _⟩ := hs)
            have HC6 := Lib.hid (HC5.out.on (below_alloc (.cells #[.int .u8 x0, .int .i64 x1, .int .u64 x2, .int .u64 x3, .bool x4] 45)))
            have HF6 := Lib.hid (HF5.out.alloc (.cells #[.int .u8 x0, .int .i64 x1, .int .u64 x2, .int .u64 x3, .bool x4] 45))
            have HQ6 := Lib.hid (HQ5.out.alloc (.cells #[.int .u8 x0, .int .i64 x1, .int .u64 x2, .int .u64 x3, .bool x4] 45))
            generalize (w5.alloc (.cells #[.int .u8 x0, .int .i64 x1, .int .u64 x2, .int .u64 x3, .bool x4] 45)) = w6 at *
            have f0 := own_cell HF6.out (boolsS_get HFb.out)
            have ff := HF6.out.frozenAt q
            have flt := own_block HF6.out gf rfl
            have HC8 := Lib.hid (HC6.out.off HF6.out (.inl rfl) ((Part.refl [gf] w6).set (p := ⟨gf, q, none⟩) (by simp) (.bool true)))
            have HF8 := Lib.hid (show (w6.setCell ⟨gf, q, none⟩ (.bool true)).ownsRow W.heap.size 4 1 (.slice (some ⟨gf, 0, none⟩) j j) j (boolsS (dr.set q true)) from by rw [← boolsS_set]; exact (HF6.out.stored q (.bool true)).1)
            have HQ8 := Lib.hid (own_part HQ6.out ((Part.refl [gf] w6).set (p := ⟨gf, q, none⟩) (by simp) (.bool true)) (fun z hz => not_sing (by obtain ⟨l, hl, _⟩ := own_row HF6.out; exact own_off HQ6.out hl (by decide) z hz)))
            have H5 : Hid (W.heap.size ≤ ((w6.setCell ⟨gf, q, none⟩ (.bool true)).alloc (.cells #[.int .i64 (q : Int)] 3)).heap.size) := Lib.hid (by have := HC8.out.low.size; simp at this ⊢; omega)
            clear HC5 HF5 HQ5 pc gplt e0 hbx
            go_wp2_with (at_builtin; refine wpList_append_own _ rfl _ _ 23 rfl W.heap.size 3 iI (.int .i64 0) 1 8 Try.underlying23 hiI hI0 hI1 hI2 rfl (by decide) _ _ _ rfl (HQ8.out.alloc _) ⟨w6.heap.size, 0, none⟩ 1 1 [.int .i64 (q : Int)] rfl rfl (fun z u hz => by have := new_cells (w6.setCell ⟨gf, q, none⟩ (.bool true)) [.int .i64 (q : Int)] 3 z u hz; simpa using this) (one_i64 _) H3.out H4.out H5.out ?_; intro vq' w9 hown9 hgr9 _; have HO9 := Lib.hid hown9; have HC9 := Lib.hid (HC8.out.grow HQ8.out hgr9); have HF9 := Lib.hid ((HF8.out.alloc (.cells #[.int .i64 (q : Int)] 3)).kept hgr9 (own_apart HF8.out HQ8.out (by decide))); clear hown9 hgr9)
            go_roundw
            case rel => exact ⟨j2 + 1, by omega, by go_num, d + 1, g, _, _, qu ++ [q], HDR.out, HC9.out, HF9.out, by rw [List.length_append, List.length_singleton, ← quV_snoc]; exact HO9.out⟩
            case measure => simp [intOf]; omega
          | true =>
            obtain ⟨i0, hi0⟩ := List.getElem?_of_mem ((HO.out.flag q true HFb.out).1 rfl)
            have hlook := HO.out.look HPL.out h4 hi0 HOq.out
            have HI0 := Lib.hid hi0
            have HLK := Lib.hid hlook
            obtain ⟨o2, ho2⟩ : ∃ o2, stepS (m : Int) d g oq = o2 := ⟨_, rfl⟩
            have HST1 := Lib.hid ho2
            rw [ho2] at HLK
            obtain ⟨la, hla⟩ : ∃ la, decide (o2.ph = 9) = la := ⟨_, rfl⟩
            have HLA := Lib.hid hla
            clear hi0 hlook ho2 hla
            go_upto_region 24 with (go_at_call 12; (with_reducible refine (sstep_at HROW.out HNX.out HA.out.sem HST1.out HLK.out.2.1 HLK.out.2.2.1 HDID.out HLA.out).mono ?_); rintro e w5 hs; have HC5 := Lib.hid (HA.out.step HBq.out hs); have HF5 := Lib.hid (own_step HA.out HBq.out hs HF.out (by decide) (by decide)); have HQ5 := Lib.hid (own_step HA.out HBq.out hs HQ.out (by decide) (by decide)); obtain ⟨rfl, _⟩ := hs)
            have HC6 := Lib.hid (HC5.out.on (below_alloc (.cells #[.int .u8 x0, .int .i64 x1, .int .u64 x2, .int .u64 x3, .bool x4] 45)))
            have HF6 := Lib.hid (HF5.out.alloc (.cells #[.int .u8 x0, .int .i64 x1, .int .u64 x2, .int .u64 x3, .bool x4] 45))
            have HQ6 := Lib.hid (HQ5.out.alloc (.cells #[.int .u8 x0, .int .i64 x1, .int .u64 x2, .int .u64 x3, .bool x4] 45))
            generalize (w5.alloc (.cells #[.int .u8 x0, .int .i64 x1, .int .u64 x2, .int .u64 x3, .bool x4] 45)) = w6 at *
            have f0 := own_cell HF6.out (boolsS_get HFb.out)
            have flt := own_block HF6.out gf rfl
            clear HC5 HF5 HQ5 pc gplt e0 hbx
            cases la with
            | false =>
              go_wp2
              go_roundw
              case rel => exact ⟨j2 + 1, by omega, by go_num, d, g, _, dr, qu, HLK.out.1, HC6.out, HF6.out, HQ6.out⟩
              case measure => simp [intOf]; omega
            | true =>
              have HLT0 : Hid ((i0 : Int) < (m : Int) + g) := Lib.hid (HLK.out.2.2.2.1 (of_decide_eq_true HLA.out))
              have hi0l := lt_of_get HI0.out
              have hquj := HO.out.few
              go_wp2
              go_loopw [112] (fun i wx => ∃ i2 : Nat, i2 ≤ i0 ∧ i = .int .i64 i2 ∧ ∃ os2, OrdN (m : Int) j d g os2 dr qu ∧ CrowdS W bsem bk bw (m : Int) d g os2 bs (.slice (some ⟨gp, 0, none⟩) bs.length cp) wx ∧ wx.ownsRow W.heap.size 4 1 (.slice (some ⟨gf, 0, none⟩) j j) j (boolsS dr) ∧ wx.ownsRow W.heap.size 3 1 (.slice aq qu.length cq) qu.length (quV qu)) (fun i _ => qu.length - (intOf i).toNat)
              case atStart => exact ⟨0, Nat.zero_le _, rfl, _, HLK.out.1, HC6.out, HF6.out, HQ6.out⟩
              case round =>
                obtain ⟨i2, hi2, rfl, os2, hO, hA, hF, hQ⟩ := hrel
                clear HLK HC6 HF6 HQ6 HOq HROW HNX HDID HST1 HLA f0 flt
                have HO2 := Lib.hid hO
                have HA2 := Lib.hid hA
                have HF2 := Lib.hid hF
                have HQ2 := Lib.hid hQ
                obtain ⟨v, hv⟩ : ∃ v, qu[i2]? = some v := ⟨qu[i2]'(by omega), List.getElem?_eq_getElem _⟩
                obtain ⟨gq, cq2, hvq, _, gqlt⟩ := own_some hQ (by omega)
                cases hvq
                have q0 := own_cell hQ (quV_get hv)
                have hil : (i2 : Int) < (qu.length : Int) := by omega
                have HV := Lib.hid hv
                clear hO hA hF hQ hv
                by_cases he : i2 = i0
                · have hvq : v = q := by have h5 := HV.out; rw [he, HI0.out] at h5; cases h5; rfl
                  subst hvq
                  subst he
                  go_wp2
                  go_roundw
                  case rel => exact ⟨j2 + 1, by omega, by go_num, d, g, os2, dr, qu, HO2.out, HA2.out, HF2.out, HQ2.out⟩
                  case measure => simp [intOf]; omega
                · have hvn : ¬ v = q := fun e => by
                    subst e
                    exact he ((List.getElem?_inj (lt_of_get HV.out) HO2.out.nodup).1 (HV.out.trans HI0.out.symm))
                  have dv : ((v : Int) == (q : Int)) = false := beq_false_of_ne (by omega)
                  have hvj : v < j := by
                    have hm := List.mem_of_getElem? HV.out
                    by_cases hx : v < j
                    · exact hx
                    · exfalso
                      have := HO2.out.mem v hm
                      omega
                  obtain ⟨bv, hbv⟩ : ∃ bv, bs[v]? = some bv := ⟨bs[v]'(by have := HBL2.out; omega), List.getElem?_eq_getElem _⟩
                  obtain ⟨ov, hov⟩ : ∃ ov, os2[v]? = some ov := ⟨os2[v]'(by rw [HO2.out.len]; omega), List.getElem?_eq_getElem _⟩
                  obtain ⟨nx2, an2, wy2, hrow2, hnx2⟩ := HA2.out.pends.row v ov bv hov hbv
                  have pc2 := own_cell HA2.out.ps (ptrs_get hbv)
                  have gplt2 := own_block HA2.out.ps gp rfl
                  obtain ⟨y0, y1, y2, y3, y4, hdid2⟩ := did_five_s d g ov
                  have hvb : (v : Int) < (bs.length : Int) := by have := HBL2.out; omega
                  have hlook2 := HO2.out.look HPL.out h4 HV.out hov
                  obtain ⟨o3, ho3⟩ : ∃ o3, stepS (m : Int) d g ov = o3 := ⟨_, rfl⟩
                  have HST3 := Lib.hid ho3
                  rw [ho3] at hlook2
                  have HLK2 := Lib.hid hlook2
                  have HLA2 : Hid (decide (o3.ph = 9) = true) := Lib.hid (decide_eq_true (hlook2.2.2.2.2 (by have := HLT0.out; omega)))
                  have HBV := Lib.hid hbv
                  have HROW2 := Lib.hid hrow2
                  have HNX2 := Lib.hid hnx2
                  have HDID2 := Lib.hid hdid2
                  have hi3 : i2 < i0 := by omega
                  clear hbv hov hrow2 hnx2 hdid2 ho3 hlook2 hvn
                  go_wp2_with (go_at_call 12; (with_reducible refine (sstep_at HROW2.out HNX2.out HA2.out.sem HST3.out HLK2.out.2.1 HLK2.out.2.2.1 HDID2.out HLA2.out).mono ?_); rintro e w8 hs; have HC8 := Lib.hid (HA2.out.step HBV.out hs); have HF8 := Lib.hid (own_step HA2.out HBV.out hs HF2.out (by decide) (by decide)); have HQ8 := Lib.hid (own_step HA2.out HBV.out hs HQ2.out (by decide) (by decide)); obtain ⟨rfl, _⟩ := hs)
                  go_roundw
                  case rel => exact ⟨i2 + 1, by omega, by go_num, _, HLK2.out.1, HC8.out.on (below_alloc _), HF8.out.alloc _, HQ8.out.alloc _⟩
                  case measure => simp [intOf]; omega
        · obtain rfl : j2 = ks.length := by omega
          go_wp2
          go_ret
          exact ⟨rfl, HA.out.low⟩
end Go.Proofs.Ytfagioamfceggaa
