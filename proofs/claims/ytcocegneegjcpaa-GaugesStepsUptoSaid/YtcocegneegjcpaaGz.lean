/- THE WALK of the law 'GaugesSteps'. -/
import Derived.Test.YtcocegneegjcpaaGy
import Derived.Test.YtcocegneegjcpaaGi
import Derived.Test.YtcocegneegjcpaaRg
import Derived.Deep.RegionHeld3
import Derived.Deep.LoopGhost
namespace Go.Proofs.Ytcocegneegjcpaa
open Go Go.RowKit

theorem rright_at {k : Int} {x : Nat} {b : Bool} (lx : B64 x) (h : grightB k x = b) (w : World) : Calls Try.prog 12 #[.agg #[.int .u8 k, .float .f64 x]] w fun e w' => e = .returned (.bool b) ∧ Below w.heap.size w w' := h ▸ rright_any lx w
theorem putG_canon {k : Int} {x T p : Nat} (hp : putG k x T = some p) : GM.bitsOf p = p := by
  unfold putG at hp
  repeat' (split at hp)
  all_goals first | (cases hp; done) | (cases hp; exact addB_canon _ _) | (cases hp; exact GM.bits_bits _)
theorem wordG_canon {T : Nat} {o : OpG} (h : OkG o) (hT : GM.bitsOf T = T) : GM.bitsOf (wordG T o) = wordG T o := by
  unfold wordG
  split
  · split
    · exact GM.bits_bits _
    · exact hT
  · split
    · rename_i h1
      split
      · exact putG_canon (h.loaded h1).1
      · exact hT
    · exact hT
theorem one_i64 (x : Int) : ∀ u ∈ [Value.int .i64 x], u.oneCell' = true := by intro u hu; simp at hu; subst hu; rfl
theorem all_i64 (l : List Int) : ∀ u ∈ i64s l, u.oneCell' = true := by
  intro u hu
  simp [i64s] at hu
  obtain ⟨x, _, rfl⟩ := hu
  rfl
theorem ext_src {w : World} {B : Option Addr} {zs : List Int} (hX : Ext .i64 w B zs) : ∀ ad, B = some ad → ∀ j u, (i64s zs)[j]? = some u → w.cell? (ad.add j) = some u := by
  intro ad had j u hj
  have hx : ∃ x, zs[j]? = some x ∧ u = .int .i64 x := by
    simp only [i64s, List.getElem?_map] at hj
    obtain ⟨x, h1, h2⟩ := Option.map_eq_some_iff.1 hj
    exact ⟨x, h1, h2.symm⟩
  obtain ⟨x, h1, rfl⟩ := hx
  obtain ⟨b, o, e1, _, e2⟩ := hX j x h1
  rw [had] at e1
  cases e1
  rw [Addr.add_lit]
  exact e2
theorem new_six (k : Int) (x : Nat) : ∀ u ∈ ([.int .u8 k, .float .f64 x, .bool false, .int .u64 0, .bool false, .float .f64 0] : List Value), u.oneCell' = true := bk_six (newG k x) 0 0
/-- the six stores as the walk spells them -/
theorem bkSet_is {w : World} {g q a' : Nat} {o' : OpG} {s' : Int} {m1 last : Bool} (h1 : decide (o'.ph = 1) = m1) (h2 : decide (o'.ph = 2) = last) :
    bkSet w g (q * 6) o' s' a' = ((((((w.setCell ⟨g, q * 6, none⟩ (.int .u8 o'.k)).setCell ⟨g, q * 6 + 1, none⟩ (.float .f64 o'.x)).setCell ⟨g, q * 6 + 2, none⟩ (.bool m1)).setCell ⟨g, q * 6 + 3, none⟩ (.int .u64 s')).setCell ⟨g, q * 6 + 4, none⟩ (.bool last)).setCell ⟨g, q * 6 + 5, none⟩ (.float .f64 a')) := by
  subst h1
  subst h2
  rfl
theorem row_mid {wr : World} {gu i b a : Nat} {t : TypeId} {l : List Value} {o : OpG} {s : Int} (h : Row wr b t l) (hne : gu ≠ b) : Row (bkSet wr gu i o s a) b t l :=
  h.part (bk_part wr gu i o s a) (by simpa using fun e => hne e.symm)
theorem OrdG.mid {W wr : World} {bg bk bw T q b gu cu : Nat} {us : List (OpG × Int × Nat)} {bs : List Nat} {vp vo : Value} {ord : List Int} {o : OpG} {s : Int} {a : Nat} (h : OrdG W bg bk bw T us bs vp (.slice (some ⟨gu, 0, none⟩) bs.length cu) vo ord wr) (hq : us[q]? = some (o, s, a)) (hb : bs[q]? = some b) (o' : OpG) (s' : Int) (a' : Nat) :
    Words (bkSet wr gu (q * 6) o' s' a') bk bw [(T : Int)] ∧ Row (bkSet wr gu (q * 6) o' s' a') b 115 (opG bk o) := by
  have h2 := (h.both.booked (o := o') (s := s') (a := a') hq).1
  exact ⟨h2.one.gau.words, h2.pends.row q o b (by simp [hq]) hb⟩
theorem gstep_at {w : World} {bk bw bp T T' : Nat} {o o' : OpG} {v : Value} {l : Bool} (h : Words w bk bw [(T : Int)]) (hT : B64 T) (hp : Row w bp 115 (opG bk o)) (ho : OkG o) (hw : wordG T o = T') (ho' : stepG T o = o') (hv : didG T o = v) (hl : decide (o'.ph = 2) = l) :
    Calls Try.prog 14 #[.pointer (some ⟨bp, 0, none⟩)] w (StepsG w bk bw bp T' o' (.tuple #[v, .bool l])) := by
  subst hw
  subst ho'
  subst hv
  subst hl
  exact gstep_op h hT hp ho
theorem Row.six {w : World} {b : Nat} {t : TypeId} {x0 x1 x2 x3 x4 x5 : Value} (h : Row w b t [x0, x1, x2, x3, x4, x5]) : w.cell? ⟨b, 4, none⟩ = some x4 ∧ w.cell? ⟨b, 5, none⟩ = some x5 := ⟨h.cell 4, h.cell 5⟩

set_option maxRecDepth 100000
set_option maxHeartbeats 51200000
theorem gsteps_any {start : Nat} {A B : Option Addr} {cap cap' : Nat} {ops : List (Int × Nat)} {zs : List Int} (W : World) (ls : B64 start) (hE : ExtGO W A ops) (hr : ops.length ≤ 1048576) (hX : Ext .i64 W B zs) (hr' : zs.length ≤ 1048576) (hB : B = none → zs.length = 0 ∧ cap' = 0) :
    Calls Try.prog 3 #[.float .f64 start, .slice A ops.length cap, .slice B zs.length cap'] W fun e w' => e = .returned (.bool true) ∧ Below W.heap.size W w' := by
  obtain ⟨ip, hip, hp0, hp1, hp2⟩ := info_parts infoPG
  obtain ⟨iu, hiu, hu0, hu1, hu2⟩ := info_parts infoBK
  obtain ⟨iI, hiI, hI0, hI1, hI2⟩ := info_parts infoIN
  have HE := Lib.hid hE
  have HX := Lib.hid hX
  have HNB := Lib.hid hB
  have LS := Lib.hid ls
  have HBS : Hid (GM.bitsOf (GM.bitsOf start) = GM.bitsOf start) := Lib.hid (GM.bits_bits start)
  have st := run_store_float
  clear hE hX ls hB
  go_enter Try.func3, Try.ntmps3
  go_wp2_with (first
    | (go_at_call 7; refine (glives_any _).mono ?_; rintro e w0 ⟨rfl, hb⟩; have HB0 := Lib.hid hb; clear hb)
    | (go_at_call 8; refine (gnew_any _).mono ?_; rintro e w1 ⟨bg, bk, bw, rfl, hg, hk, hw, hS, hb⟩; have HO1 := Lib.hid (OneG.start HB0.out hS hw hb); clear hg hk hw hS hb)
    | (go_at_call 9; refine (gset_any HO1.out.gau LS.out).mono ?_; rintro e w3 ⟨rfl, hS, hP⟩; have HO3 := Lib.hid (HO1.out.next hS hP); clear hS hP)
    | (go_at_call 10; refine (rbits_any LS.out _).mono ?_; rintro e wx ⟨rfl, rfl⟩))
  go_loopw [9, 10, 37] (fun vp vu u wr => ∃ j : Nat, j ≤ ops.length ∧ u = .int .i64 j ∧ ∃ bs, BothG W bg bk bw (GM.bitsOf start) (pickG (ops.take j)) bs vp vu wr) (fun _ _ u _ => ops.length - (intOf u).toNat)
  case atStart => exact ⟨0, Nat.zero_le _, rfl, [], BothG.nil HO3.out⟩
  case round =>
    obtain ⟨j, hj, rfl, bs, hM⟩ := hrel
    have HK := Lib.hid hM
    clear hM HO1 HO3
    by_cases hlt : j < ops.length
    · obtain ⟨op, hop⟩ : ∃ op, ops[j]? = some op := ⟨ops[j], List.getElem?_eq_getElem hlt⟩
      obtain ⟨b', o', rfl, hlt', q0, q1, lx⟩ := (HE.out.on HK.out.many.low) j _ hop
      have HT := Lib.hid (pickG_take ops hop)
      obtain ⟨k, x⟩ := op
      have LX := Lib.hid lx
      have hlt2 : (j : Int) < (ops.length : Int) := by omega
      have hj2 : j * 2 ≤ 17592186044416 := by omega
      have HPL := Lib.hid (pickG_length (ops.take j))
      have HRW := Lib.hid (Row.new wr 35 [.int .u8 k, .float .f64 x])
      have HKA : Hid (BothG W bg bk bw (GM.bitsOf start) (pickG (ops.take j)) bs _ _ (wr.alloc (.cells #[.int .u8 k, .float .f64 x] 35))) := Lib.hid (HK.out.alloc _)
      clear lx hop
      dsimp only at q0 q1
      cases hg : grightB k x with
      | false =>
        have HGR := Lib.hid hg
        clear hg
        go_wp2_with (first
          | (go_at_call 11; refine (gstart_no HKA.out.many.one.gau.head LX.out HGR.out).mono ?_; rintro e w5 ⟨rfl, hb5⟩; have HK5 := Lib.hid (HKA.out.on hb5); have hR5 := HRW.out.below hb5 HRW.out.lt; have c0 : w5.cell? ⟨wr.heap.size, 0, none⟩ = some (.int .u8 k) := hR5.cell 0; have c1 : w5.cell? ⟨wr.heap.size, 1, none⟩ = some (.float .f64 x) := hR5.cell 1; clear hb5 hR5)
          | (go_at_call 12; refine (rright_at LX.out HGR.out _).mono ?_; rintro e w6 ⟨rfl, hb6⟩; have HK6 := Lib.hid (HK5.out.on hb6); clear hb6))
        go_roundw
        case rel => exact ⟨j + 1, by omega, by go_num, bs, by rw [HT.out]; simp only [HGR.out]; rw [if_neg (by simp), List.append_nil]; exact HK6.out⟩
        case measure => simp [intOf]; omega
      | true =>
        have HGR := Lib.hid hg
        have HOK : Hid (OkG (newG k x)) := Lib.hid (OkG.new hg LX.out)
        clear hg
        have HLL : Hid (bs.length + 1 ≤ ops.length) := Lib.hid (by have h1 := HK.out.many.pends.len; have h2 := HPL.out; rw [List.length_map] at h1; rw [List.length_take] at h2; omega)
        have H3 : Hid (bs.length + 1 ≤ maxLen) := Lib.hid (by have := HLL.out; unfold maxLen; omega)
        have H4 : Hid ((bs.length + 1) * 8 ≤ 140737488355328) := Lib.hid (by have := HLL.out; omega)
        have H6 : Hid ((bs.length + 1) * 48 ≤ 140737488355328) := Lib.hid (by have := HLL.out; omega)
        go_wp2_with (first
          | (go_at_call 11; refine (gstart_op HKA.out.many.one.gau.head LX.out HGR.out).mono ?_; rintro e w5 ⟨bp, rfl, hn5, hr5, hb5⟩; have HB5 := Lib.hid hb5; have HN5 := Lib.hid hn5; have HR5 := Lib.hid hr5; have hR5 := HRW.out.below hb5 HRW.out.lt; have c0 : w5.cell? ⟨wr.heap.size, 0, none⟩ = some (.int .u8 k) := hR5.cell 0; have c1 : w5.cell? ⟨wr.heap.size, 1, none⟩ = some (.float .f64 x) := hR5.cell 1; have HRO5 := Lib.hid hR5; clear hb5 hn5 hr5 hR5)
          | (go_at_call 12; refine (rright_at LX.out HGR.out _).mono ?_; rintro e w6 ⟨rfl, hb6⟩; have HB6 := Lib.hid (HB5.out.trans (hb6.mono HB5.out.size)); have HR6 := Lib.hid (HR5.out.below hb6 HR5.out.lt); have HK6 := Lib.hid (HKA.out.on HB6.out); have hRO6 := HRO5.out.below hb6 HRO5.out.lt; have HRO6 := Lib.hid hRO6; have d0 : w6.cell? ⟨wr.heap.size, 0, none⟩ = some (.int .u8 k) := hRO6.cell 0; have d1 : w6.cell? ⟨wr.heap.size, 1, none⟩ = some (.float .f64 x) := hRO6.cell 1; have H5 : Hid (W.heap.size ≤ (w6.alloc (.cells #[.pointer (some ⟨bp, 0, none⟩)] 36)).heap.size) := Lib.hid (by have := HK6.out.many.low.size; simp; omega); clear hb6 hRO6)
          | (at_builtin; refine wpList_append_own _ rfl _ _ 31 rfl W.heap.size 36 ip (.pointer none) 1 8 Try.underlying31 hip hp0 hp1 hp2 rfl (by decide) _ _ _ rfl (HK6.out.many.ps.alloc _) ⟨w6.heap.size, 0, none⟩ 1 1 [.pointer (some ⟨bp, 0, none⟩)] rfl rfl (new_cells _ _ _) (one_ptr _) H3.out H4.out H5.out ?_; intro vp' w7 hown7 hgr7 _; have HO7 := Lib.hid hown7; have HG7 := Lib.hid hgr7; have hR7 := (HRO6.out.alloc (.cells #[.pointer (some ⟨bp, 0, none⟩)] 36)).grown hgr7 (own_not_in HK6.out.many.ps HRO6.out (by decide)); have e0 : w7.cell? ⟨wr.heap.size, 0, none⟩ = some (.int .u8 k) := hR7.cell 0; have e1 : w7.cell? ⟨wr.heap.size, 1, none⟩ = some (.float .f64 x) := hR7.cell 1; have HU7 := Lib.hid ((HK6.out.book.alloc (.cells #[.pointer (some ⟨bp, 0, none⟩)] 36)).kept hgr7 (own_apart HK6.out.book HK6.out.many.ps (by decide))); have H7 : Hid (W.heap.size ≤ (w7.alloc (.cells #[.int .u8 k, .float .f64 x, .bool false, .int .u64 0, .bool false, .float .f64 0] 42)).heap.size) := Lib.hid (by have h1 := HK6.out.many.low.size; have h2 := hgr7.size; simp at h2 ⊢; omega); clear hown7 hgr7 hR7)
          | (at_builtin; refine wpList_append_own _ rfl _ _ 32 rfl W.heap.size 42 iu (.agg #[.int .u8 0, .float .f64 0, .bool false, .int .u64 0, .bool false, .float .f64 0]) 6 48 Try.underlying32 hiu hu0 hu1 hu2 rfl (by decide) _ _ _ rfl (HU7.out.alloc _) ⟨w7.heap.size, 0, none⟩ 1 1 [.int .u8 k, .float .f64 x, .bool false, .int .u64 0, .bool false, .float .f64 0] rfl rfl (new_cells _ _ _) (new_six _ _) H3.out H6.out H7.out ?_; intro vu' w8 hown8 hgr8 _; have HO8 := Lib.hid hown8; have HG8 := Lib.hid hgr8; clear hown8 hgr8))
        go_roundw
        case rel => exact ⟨j + 1, by omega, by go_num, bs ++ [bp], by rw [HT.out]; simp only [HGR.out, if_true]; exact HKA.out.grow HB6.out HR6.out HN5.out HOK.out HO7.out HG7.out HO8.out HG8.out⟩
        case measure => simp [intOf]; omega
    · obtain rfl : j = ops.length := by omega
      have HLL : Hid (bs.length ≤ ops.length) := Lib.hid (by have h1 := HK.out.many.pends.len; have h2 := pickG_length (ops.take ops.length); rw [List.length_map] at h1; rw [List.length_take] at h2; omega)
      have hnl : bs.length ≤ 1048576 := by have := HLL.out; omega
      obtain ⟨pa, pc, rfl⟩ := own_form HK.out.many.ps
      obtain ⟨ua, uc, rfl⟩ := own_form HK.out.book
      obtain ⟨us0, hus0⟩ : ∃ us0, pickG (ops.take ops.length) = us0 := ⟨_, rfl⟩
      rw [hus0] at HK
      clear hus0
      go_wp2_with (at_builtin; refine wpList_append_any rfl _ _ 24 rfl W.heap.size 3 iI (.int .i64 0) 1 8 Try.underlying24 hiI hI0 hI1 hI2 rfl (by decide) (.slice none 0 0) 0 [] rfl ⟨rfl, .inl ⟨rfl, rfl⟩⟩ B zs.length cap' (i64s zs) rfl (by simp [i64s]) HNB.out (ext_src (HX.out.on HK.out.many.low)) (all_i64 zs) (by unfold maxLen; omega) (by omega) HK.out.many.low.size ?_; intro vo w9 hown9 hgr9; have HZ9 := Lib.hid (HK.out.first_ (zs := zs) (by simpa using hown9) hgr9); clear hown9 hgr9)
      go_loopw [15, 77] (fun vo u wr => ∃ i : Nat, i ≤ bs.length ∧ u = .int .i64 i ∧ ∃ ord : List Int, ord.length = zs.length + 2 * i ∧ OrdG W bg bk bw (GM.bitsOf start) us0 bs (.slice pa bs.length pc) (.slice ua bs.length uc) vo ord wr) (fun _ u _ => bs.length - (intOf u).toNat)
      case atStart => exact ⟨0, Nat.zero_le _, rfl, zs, by omega, HZ9.out⟩
      case round =>
        obtain ⟨i, hi, rfl, ord, hol, hZ⟩ := hrel
        have HZ := Lib.hid hZ
        have HOL := Lib.hid hol
        clear hZ hol HZ9 HK
        by_cases hlt : i < bs.length
        · have hlt2 : (i : Int) < (bs.length : Int) := by omega
          go_wp2
          go_loopw [15, 17] (fun vo u wr => ∃ k : Nat, k ≤ 2 ∧ u = .int .i64 k ∧ ∃ ord : List Int, ord.length = zs.length + 2 * i + k ∧ OrdG W bg bk bw (GM.bitsOf start) us0 bs (.slice pa bs.length pc) (.slice ua bs.length uc) vo ord wr) (fun _ u _ => 2 - (intOf u).toNat)
          case atStart => exact ⟨0, by omega, rfl, ord, by have := HOL.out; omega, HZ.out⟩
          case round =>
            obtain ⟨k, hk, rfl, ord, hol, hZ⟩ := hrel
            have HZ := Lib.hid hZ
            have HOL := Lib.hid hol
            clear hZ hol
            by_cases hk2 : k < 2
            · have hk3 : (k : Int) < 2 := by omega
              have H3 : Hid (ord.length + 1 ≤ maxLen) := Lib.hid (by have := HOL.out; unfold maxLen; omega)
              have H4 : Hid ((ord.length + 1) * 8 ≤ 140737488355328) := Lib.hid (by have := HOL.out; omega)
              go_wp2_with (at_builtin; refine wpList_append_own _ rfl _ _ 24 rfl W.heap.size 3 iI (.int .i64 0) 1 8 Try.underlying24 hiI hI0 hI1 hI2 rfl (by decide) _ _ _ rfl (HZ.out.ordr.alloc _) ⟨wr.heap.size, 0, none⟩ 1 1 [.int .i64 (i : Int)] rfl rfl (new_cells _ _ _) (one_i64 _) H3.out H4.out (by have := HZ.out.both.many.low.size; simp; omega) ?_; intro vo' w6 hown6 hgr6 _; have HZ6 := Lib.hid (HZ.out.more hown6 hgr6); clear hown6 hgr6)
              go_roundw
              case rel => exact ⟨k + 1, by omega, by go_num, _, by have := HOL.out; rw [List.length_append, List.length_singleton]; omega, HZ6.out⟩
              case measure => simp [intOf]; omega
            · obtain rfl : k = 2 := by omega
              go_wp2
              go_roundw
              case rel => exact ⟨i + 1, by omega, by go_num, ord, by have := HOL.out; omega, HZ.out⟩
              case measure => simp [intOf]; omega
        · obtain rfl : i = bs.length := by omega
          obtain ⟨oa, oc, rfl⟩ := own_form HZ.out.ordr
          have hon : ord.length ≤ 3145728 := by have := HOL.out; omega
          go_wp2
          go_loopw [8, 18] (fun tv u wr => ∃ r : Nat, r ≤ 2 ∧ u = .int .i64 r ∧ ∃ T us, tv = .int .u64 ((T : Nat) : Int) ∧ GM.bitsOf T = T ∧ OrdG W bg bk bw T us bs (.slice pa bs.length pc) (.slice ua bs.length uc) (.slice oa ord.length oc) ord wr) (fun _ u _ => 2 - (intOf u).toNat)
          case atStart => exact ⟨0, by omega, rfl, _, us0, rfl, HBS.out, HZ.out⟩
          case round =>
            obtain ⟨r, hr2, rfl, T, us, rfl, hcan, hZ⟩ := hrel
            have HZ0 := Lib.hid hZ
            have HCN0 := Lib.hid hcan
            clear hZ hcan HZ
            by_cases hlt : r < 2
            · have hlt2 : (r : Int) < 2 := by omega
              go_wp2
              go_loopw [8, 95] (fun tv u wr => ∃ j : Nat, j ≤ ord.length ∧ u = .int .i64 j ∧ ∃ T us, tv = .int .u64 ((T : Nat) : Int) ∧ GM.bitsOf T = T ∧ OrdG W bg bk bw T us bs (.slice pa bs.length pc) (.slice ua bs.length uc) (.slice oa ord.length oc) ord wr) (fun _ u _ => ord.length - (intOf u).toNat)
              case atStart => exact ⟨0, Nat.zero_le _, rfl, T, us, rfl, HCN0.out, HZ0.out⟩
              case round =>
                obtain ⟨j, hj, rfl, T, us, rfl, hcan, hZ⟩ := hrel
                have HZ := Lib.hid hZ
                have HCN := Lib.hid hcan
                clear hZ hcan HZ0 HCN0
                by_cases hlt : j < ord.length
                · have hjl : (j : Int) < (ord.length : Int) := by omega
                  obtain ⟨k, hk⟩ : ∃ k, ord[j]? = some k := ⟨_, List.getElem?_eq_getElem hlt⟩
                  obtain ⟨g9, c9, hv9, _, _⟩ := own_some HZ.out.ordr (by omega)
                  cases hv9
                  have q9 := own_cell HZ.out.ordr (i64s_get hk)
                  clear hk
                  by_cases hk0 : k < 0
                  · go_wp2
                    go_roundw
                    case rel => exact ⟨j + 1, by omega, by go_num, T, us, rfl, HCN.out, HZ.out⟩
                    case measure => simp [intOf]; omega
                  by_cases hkn : (bs.length : Int) ≤ k
                  · go_wp2
                    go_roundw
                    case rel => exact ⟨j + 1, by omega, by go_num, T, us, rfl, HCN.out, HZ.out⟩
                    case measure => simp [intOf]; omega
                  obtain ⟨q, rfl⟩ := Int.eq_ofNat_of_zero_le (show 0 ≤ k by omega)
                  have hqn : q < bs.length := by omega
                  obtain ⟨o, s, a, b, g, c, gu, cu, hq, hb, hv, hv2, hc, hR, hok, hsaw⟩ := HZ.out.both.get hqn
                  cases hv
                  cases hv2
                  have hq2 : (q : Int) < (bs.length : Int) := by omega
                  have hq6 : q * 6 ≤ 17592186044416 := by omega
                  have hgl : g < wr.heap.size := World.block_lt_of_cell? _ _ hc
                  have HBR := Lib.hid hR.lt
                  have HBW := Lib.hid HZ.out.both.many.one.gau.words.row.lt
                  have HQ := Lib.hid hq
                  have HBb := Lib.hid hb
                  have HOK := Lib.hid hok
                  have HS := Lib.hid hsaw
                  have HTT := Lib.hid HZ.out.both.many.one.gau.ok
                  obtain ⟨k0, k1, k2, k3, k4, k5⟩ := bk_cells HZ.out.both.book hq
                  have hgul : gu < wr.heap.size := World.block_lt_of_cell? _ _ k0
                  have hgne : g ≠ gu := HZ.out.both.apart hqn
                  have hgne2 : gu ≠ g := fun e => hgne e.symm
                  clear hq hb hR hok hsaw
                  obtain ⟨o', hos⟩ : ∃ o', stepG T o = o' := ⟨_, rfl⟩
                  obtain ⟨T', htw⟩ : ∃ T', wordG T o = T' := ⟨_, rfl⟩
                  obtain ⟨last, hl⟩ : ∃ last, decide (o'.ph = 2) = last := ⟨_, rfl⟩
                  obtain ⟨m1, hm1⟩ : ∃ m1, decide (o'.ph = 1) = m1 := ⟨_, rfl⟩
                  obtain ⟨l1, hl1⟩ : ∃ l1, decide (o.ph = 1) = l1 := ⟨_, rfl⟩
                  have HOS := Lib.hid hos
                  have HTW := Lib.hid htw
                  have HL := Lib.hid hl
                  have HM1 := Lib.hid hm1
                  have HL1 := Lib.hid hl1
                  have HOK2 : Hid (OkG o') := Lib.hid (by rw [← hos]; exact HOK.out.step HTT.out)
                  have HTT2 : Hid (B64 T') := Lib.hid (by rw [← htw]; exact wordG_lt HOK.out HTT.out)
                  have HCN2 : Hid (GM.bitsOf T' = T') := Lib.hid (by rw [← htw]; exact wordG_canon HOK.out HCN.out)
                  rw [hl1] at k2
                  clear hos htw hl hm1 hl1
                  by_cases h2 : o.ph = 2
                  · skip
                    have HL2 : Hid (decide (o.ph = 2) = true) := Lib.hid (by simp [h2])
                    have HDI : Hid (didG T o = .agg #[.int .u8 0, .int .i64 0, .int .u64 0, .int .u64 0, .bool false]) := Lib.hid (by unfold didG; rw [if_neg (by omega), if_neg (by omega)])
                    rw [HL2.out] at k4
                    clear h2
                    go_wp2_with (first
                      | (go_at_call 13; refine (grstep_at HOK.out HTT.out HS.out HTW.out HOS.out HDI.out HL1.out HL2.out HM1.out HL.out).mono ?_; rintro e w1 ⟨s', a', rfl, hs', hb1⟩; have HS2 := Lib.hid hs'; have HZ1 := Lib.hid (HZ.out.on hb1); have hgl1 : g < w1.heap.size := Nat.lt_of_lt_of_le hgl hb1.size; have hgul1 : gu < w1.heap.size := Nat.lt_of_lt_of_le hgul hb1.size; have HBR1 : Hid (b < w1.heap.size) := Lib.hid (Nat.lt_of_lt_of_le HBR.out hb1.size); have HBW1 : Hid (bw < w1.heap.size) := Lib.hid (Nat.lt_of_lt_of_le HBW.out hb1.size); obtain ⟨n0, n1, n2, n3, n4, n5⟩ := bk_cells HZ1.out.both.book HQ.out; have nf := HZ1.out.both.book.frozenAt; have HMD := Lib.hid (HZ1.out.mid HQ.out HBb.out o' s' a'); have pc1 := own_cell HZ1.out.both.many.ps (ptrs_get HBb.out); clear hs' hb1)
                      | (go_at_call 14; have hmd := HMD.out; rw [bkSet_is HM1.out HL.out] at hmd; refine (gstep_at ((hmd.1.alloc _).alloc _) HTT.out ((hmd.2.alloc _).alloc _) HOK.out HTW.out HOS.out HDI.out HL.out).mono ?_; intro e w3 hs; rw [← bkSet_is HM1.out HL.out] at hs; have hcp := hs; obtain ⟨he, _, hR3, hP3⟩ := hs; subst he; have HZ3 := Lib.hid (HZ1.out.step HQ.out HBb.out (((Below.refl _ _).alloc (Nat.le_refl _) _).alloc (by simp) _) hcp HTT2.out HOK2.out HS2.out); have HR3 := Lib.hid hR3; have hB1 : Row w3 w1.heap.size 42 [.int .u8 o'.k, .float .f64 o'.x, .bool m1, .int .u64 s', .bool last, .float .f64 a'] := ((Row.new_at _ _ _ (bkSet_size _ _ _ _ _ _).symm).alloc _).part hP3 (by have h1 := HBR1.out; have h2 := HBW1.out; simp; omega); have hB2 : Row w3 (w1.heap.size + 1) 45 [.int .u8 0, .int .i64 0, .int .u64 0, .int .u64 0, .bool false] := (Row.new2 _ _ _ _ (by rw [bkSet_size])).part hP3 (by have h1 := HBR1.out; have h2 := HBW1.out; simp; omega); have HB1 := Lib.hid hB1; have HB2 := Lib.hid hB2; clear hcp hmd hR3 hP3 hB1 hB2))
                    generalize hz : w3.alloc (.cells #[.int .u8 0, .int .i64 0, .int .u64 0, .int .u64 0, .bool false] 45) = wz
                    obtain ⟨b1, hb1⟩ : ∃ b1, w1.heap.size = b1 := ⟨_, rfl⟩
                    obtain ⟨b2, hb2⟩ : ∃ b2, w1.heap.size + 1 = b2 := ⟨_, rfl⟩
                    obtain ⟨b3, hb3⟩ : ∃ b3, w3.heap.size = b3 := ⟨_, rfl⟩
                    have HBz : Hid (OrdG W bg bk bw T' (us.set q (o', s', a')) bs (.slice (some ⟨g, 0, none⟩) bs.length pc) (.slice (some ⟨gu, 0, none⟩) bs.length uc) (.slice (some ⟨g9, 0, none⟩) ord.length oc) ord wz) := Lib.hid (by rw [← hz]; exact HZ3.out.alloc _)
                    have HRz : Hid (Row wz b 115 (opG bk o')) := Lib.hid (by rw [← hz]; exact HR3.out.alloc _)
                    have HD1 : Hid (Row wz b1 42 [.int .u8 o'.k, .float .f64 o'.x, .bool m1, .int .u64 s', .bool last, .float .f64 a']) := Lib.hid (by rw [← hz, ← hb1]; exact HB1.out.alloc _)
                    have HD2 : Hid (Row wz b2 45 [.int .u8 0, .int .i64 0, .int .u64 0, .int .u64 0, .bool false]) := Lib.hid (by rw [← hz, ← hb2]; exact HB2.out.alloc _)
                    have HD3 : Hid (Row wz b3 45 [.int .u8 0, .int .i64 0, .int .u64 0, .int .u64 0, .bool false]) := Lib.hid (by rw [← hz, ← hb3]; exact Row.new w3 _ _)
                    rw [hb3, hb2, hb1]
                    clear hz hb1 hb2 hb3 hc hgl hgul hgl1 hgul1 pc1 nf n0 n1 n2 n3 n4 n5 k0 k1 k2 k3 k4 k5 q9
                    obtain ⟨xu4, xu5⟩ := HD1.out.six
                    obtain ⟨xv0, xv1, xv2, xv3, xv4⟩ := HD2.out.five
                    obtain ⟨xg0, xg1, xg2, xg3, xg4⟩ := HD3.out.five
                    have xpc := own_cell HBz.out.both.many.ps (ptrs_get HBb.out)
                    have xlt1 := HD1.out.lt
                    have xlt2 := HD2.out.lt
                    have xlt3 := HD3.out.lt
                    have xlt4 : g < _ := World.block_lt_of_cell? _ _ xpc
                    go_region_held3 (fun w' => w'.cell? ⟨b1, 4, none⟩ = some (.bool last) ∧ w'.cell? ⟨b1, 5, none⟩ = some (.float .f64 a') ∧ w'.cell? ⟨b2, 0, none⟩ = some (.int .u8 0) ∧ w'.cell? ⟨b2, 1, none⟩ = some (.int .i64 0) ∧ w'.cell? ⟨b2, 2, none⟩ = some (.int .u64 0) ∧ w'.cell? ⟨b2, 3, none⟩ = some (.int .u64 0) ∧ w'.cell? ⟨b2, 4, none⟩ = some (.bool false) ∧ w'.cell? ⟨b3, 0, none⟩ = some (.int .u8 0) ∧ w'.cell? ⟨b3, 1, none⟩ = some (.int .i64 0) ∧ w'.cell? ⟨b3, 2, none⟩ = some (.int .u64 0) ∧ w'.cell? ⟨b3, 3, none⟩ = some (.int .u64 0) ∧ w'.cell? ⟨b3, 4, none⟩ = some (.bool false) ∧ w'.cell? ⟨g, q, none⟩ = some (.pointer (some ⟨b, 0, none⟩)))
                      (first | (with_reducible exact ⟨yu4, yu5, yv0, yv1, yv2, yv3, yv4, yg0, yg1, yg2, yg3, yg4, ypc⟩) | (with_reducible exact ⟨xu4, xu5, xv0, xv1, xv2, xv3, xv4, xg0, xg1, xg2, xg3, xg4, xpc⟩) | go_keep)
                      (first
                      | (go_at_call 15; refine (gdone_at HRz.out.drew HOK2.out.ph HL.out).mono ?_; rintro e wx ⟨rfl, rfl⟩)
                      | (go_at_call 17; refine (ganswer_op HRz.out.drew).mono ?_; rintro e wx ⟨rfl, rfl⟩)
                      | (go_at_call 16; refine (run_same HOK2.out.ans HS2.out.lt HS2.out.ans.symm _).mono ?_; rintro e wx ⟨rfl, rfl⟩)
                      | (go_at_call 19; refine (gget_any HBz.out.drew.both.many.one.gau).mono ?_; rintro e w9 ⟨rfl, hS, hP⟩; have HB9 := Lib.hid (HBz.out.drew.word hS hP); have hbw := HBz.out.both.many.one.gau.words.row; have hdA := HD1.out.drew.part hP (by simpa using HD1.out.ne hbw (by decide)); have hdB := HD2.out.drew.part hP (by simpa using HD2.out.ne hbw (by decide)); have hdC := HD3.out.drew.part hP (by simpa using HD3.out.ne hbw (by decide)); obtain ⟨yu4, yu5⟩ := hdA.six; obtain ⟨yv0, yv1, yv2, yv3, yv4⟩ := hdB.five; obtain ⟨yg0, yg1, yg2, yg3, yg4⟩ := hdC.five; have ypc := own_cell HB9.out.both.many.ps (ptrs_get HBb.out); have ylt1 := hdA.lt; have ylt2 := hdB.lt; have ylt3 := hdC.lt; have ylt4 : g < _ := World.block_lt_of_cell? _ _ ypc; clear hbw hdA hdB hdC hS hP)
                      | (go_at_call 18; (with_reducible refine (gbits_at HB9.out.both.many.one.gau.ok HCN2.out _).mono ?_); rintro e wx ⟨rfl, rfl⟩))
                    all_goals
                      go_wp2_with fail
                      go_roundw
                      case rel => exact ⟨j + 1, by omega, by go_num, T', _, rfl, HCN2.out, by first | exact HB9.out | exact HB9.out.drew⟩
                      case measure => simp [intOf]; omega
                  · skip
                    have HL2 : Hid (decide (o.ph = 2) = false) := Lib.hid (by simp [h2])
                    obtain ⟨d0, d1, d2, d3, d4, hdi⟩ := did_fiveG T o
                    have HDI := Lib.hid hdi
                    rw [HL2.out] at k4
                    clear h2 hdi
                    go_wp2_with (first
                      | (go_at_call 13; refine (grstep_at HOK.out HTT.out HS.out HTW.out HOS.out HDI.out HL1.out HL2.out HM1.out HL.out).mono ?_; rintro e w1 ⟨s', a', rfl, hs', hb1⟩; have HS2 := Lib.hid hs'; have HZ1 := Lib.hid (HZ.out.on hb1); have hgl1 : g < w1.heap.size := Nat.lt_of_lt_of_le hgl hb1.size; have hgul1 : gu < w1.heap.size := Nat.lt_of_lt_of_le hgul hb1.size; have HBR1 : Hid (b < w1.heap.size) := Lib.hid (Nat.lt_of_lt_of_le HBR.out hb1.size); have HBW1 : Hid (bw < w1.heap.size) := Lib.hid (Nat.lt_of_lt_of_le HBW.out hb1.size); obtain ⟨n0, n1, n2, n3, n4, n5⟩ := bk_cells HZ1.out.both.book HQ.out; have nf := HZ1.out.both.book.frozenAt; have HMD := Lib.hid (HZ1.out.mid HQ.out HBb.out o' s' a'); have pc1 := own_cell HZ1.out.both.many.ps (ptrs_get HBb.out); clear hs' hb1)
                      | (go_at_call 14; have hmd := HMD.out; rw [bkSet_is HM1.out HL.out] at hmd; refine (gstep_at ((hmd.1.alloc _).alloc _) HTT.out ((hmd.2.alloc _).alloc _) HOK.out HTW.out HOS.out HDI.out HL.out).mono ?_; intro e w3 hs; rw [← bkSet_is HM1.out HL.out] at hs; have hcp := hs; obtain ⟨he, _, hR3, hP3⟩ := hs; subst he; have HZ3 := Lib.hid (HZ1.out.step HQ.out HBb.out (((Below.refl _ _).alloc (Nat.le_refl _) _).alloc (by simp) _) hcp HTT2.out HOK2.out HS2.out); have HR3 := Lib.hid hR3; have hB1 : Row w3 w1.heap.size 42 [.int .u8 o'.k, .float .f64 o'.x, .bool m1, .int .u64 s', .bool last, .float .f64 a'] := ((Row.new_at _ _ _ (bkSet_size _ _ _ _ _ _).symm).alloc _).part hP3 (by have h1 := HBR1.out; have h2 := HBW1.out; simp; omega); have hB2 : Row w3 (w1.heap.size + 1) 45 [.int .u8 d0, .int .i64 d1, .int .u64 d2, .int .u64 d3, .bool d4] := (Row.new2 _ _ _ _ (by rw [bkSet_size])).part hP3 (by have h1 := HBR1.out; have h2 := HBW1.out; simp; omega); have HB1 := Lib.hid hB1; have HB2 := Lib.hid hB2; clear hcp hmd hR3 hP3 hB1 hB2))
                    generalize hz : w3.alloc (.cells #[.int .u8 d0, .int .i64 d1, .int .u64 d2, .int .u64 d3, .bool d4] 45) = wz
                    obtain ⟨b1, hb1⟩ : ∃ b1, w1.heap.size = b1 := ⟨_, rfl⟩
                    obtain ⟨b2, hb2⟩ : ∃ b2, w1.heap.size + 1 = b2 := ⟨_, rfl⟩
                    obtain ⟨b3, hb3⟩ : ∃ b3, w3.heap.size = b3 := ⟨_, rfl⟩
                    have HBz : Hid (OrdG W bg bk bw T' (us.set q (o', s', a')) bs (.slice (some ⟨g, 0, none⟩) bs.length pc) (.slice (some ⟨gu, 0, none⟩) bs.length uc) (.slice (some ⟨g9, 0, none⟩) ord.length oc) ord wz) := Lib.hid (by rw [← hz]; exact HZ3.out.alloc _)
                    have HRz : Hid (Row wz b 115 (opG bk o')) := Lib.hid (by rw [← hz]; exact HR3.out.alloc _)
                    have HD1 : Hid (Row wz b1 42 [.int .u8 o'.k, .float .f64 o'.x, .bool m1, .int .u64 s', .bool last, .float .f64 a']) := Lib.hid (by rw [← hz, ← hb1]; exact HB1.out.alloc _)
                    have HD2 : Hid (Row wz b2 45 [.int .u8 d0, .int .i64 d1, .int .u64 d2, .int .u64 d3, .bool d4]) := Lib.hid (by rw [← hz, ← hb2]; exact HB2.out.alloc _)
                    have HD3 : Hid (Row wz b3 45 [.int .u8 d0, .int .i64 d1, .int .u64 d2, .int .u64 d3, .bool d4]) := Lib.hid (by rw [← hz, ← hb3]; exact Row.new w3 _ _)
                    rw [hb3, hb2, hb1]
                    clear hz hb1 hb2 hb3 hc hgl hgul hgl1 hgul1 pc1 nf n0 n1 n2 n3 n4 n5 k0 k1 k2 k3 k4 k5 q9
                    obtain ⟨xu4, xu5⟩ := HD1.out.six
                    obtain ⟨xv0, xv1, xv2, xv3, xv4⟩ := HD2.out.five
                    obtain ⟨xg0, xg1, xg2, xg3, xg4⟩ := HD3.out.five
                    have xpc := own_cell HBz.out.both.many.ps (ptrs_get HBb.out)
                    have xlt1 := HD1.out.lt
                    have xlt2 := HD2.out.lt
                    have xlt3 := HD3.out.lt
                    have xlt4 : g < _ := World.block_lt_of_cell? _ _ xpc
                    refine wp_region_held_drew (S := (fun w' => w'.cell? ⟨b1, 4, none⟩ = some (.bool last) ∧ w'.cell? ⟨b1, 5, none⟩ = some (.float .f64 a') ∧ w'.cell? ⟨b2, 0, none⟩ = some (.int .u8 d0) ∧ w'.cell? ⟨b2, 1, none⟩ = some (.int .i64 d1) ∧ w'.cell? ⟨b2, 2, none⟩ = some (.int .u64 d2) ∧ w'.cell? ⟨b2, 3, none⟩ = some (.int .u64 d3) ∧ w'.cell? ⟨b2, 4, none⟩ = some (.bool d4) ∧ w'.cell? ⟨b3, 0, none⟩ = some (.int .u8 d0) ∧ w'.cell? ⟨b3, 1, none⟩ = some (.int .i64 d1) ∧ w'.cell? ⟨b3, 2, none⟩ = some (.int .u64 d2) ∧ w'.cell? ⟨b3, 3, none⟩ = some (.int .u64 d3) ∧ w'.cell? ⟨b3, 4, none⟩ = some (.bool d4) ∧ w'.cell? ⟨g, q, none⟩ = some (.pointer (some ⟨b, 0, none⟩)))) (by kernel_rfl) ?_ (fun hHeld0 => ?_)
                    · try dsimp only
                      (first | (with_reducible exact ⟨yu4, yu5, yv0, yv1, yv2, yv3, yv4, yg0, yg1, yg2, yg3, yg4, ypc⟩) | (with_reducible exact ⟨xu4, xu5, xv0, xv1, xv2, xv3, xv4, xg0, xg1, xg2, xg3, xg4, xpc⟩) | go_keep)
                    refine wpAnyH_take (i := 0) (oi := { dst := some 135, op := Op.load 45 (Operand.tmp 25), type := 45, pos := "law.go:71", after := #[], guard := none }) (v := ?_) rfl (by kernel_rfl) (by kernel_rfl) (by kernel_rfl) (fun _ _ _ h => h) (Or.inl ⟨by rfl, ?_⟩) (by assumption) ?_
                    rotate_left
                    · intro wq hSq
                      try dsimp only at hSq
                      go_simp
                      try (with_reducible rfl)
                    try simp only [Act.put, List.setIfInBounds_toArray, List.set_cons_zero, List.set_cons_succ]
                    refine wpAnyH_take (i := 1) (oi := { dst := some 136, op := Op.load 45 (Operand.tmp 24), type := 45, pos := "law.go:71", after := #[], guard := none }) (v := ?_) rfl (by kernel_rfl) (by kernel_rfl) (by kernel_rfl) (fun _ _ _ h => h) (Or.inl ⟨by rfl, ?_⟩) (by assumption) ?_
                    rotate_left
                    · intro wq hSq
                      try dsimp only at hSq
                      go_simp
                      try (with_reducible rfl)
                    try simp only [Act.put, List.setIfInBounds_toArray, List.set_cons_zero, List.set_cons_succ]
                    refine wpAnyH_take (i := 2) (oi := { dst := some 137, op := Op.binOp BinOp.neq 45 (Operand.tmp 135) (Operand.tmp 136) 45, type := 4, pos := "law.go:71", after := #[{ on := 0, ground := Ground.data }, { on := 1, ground := Ground.data }], guard := none }) (v := ?_) rfl (by kernel_rfl) (by kernel_rfl) (by kernel_rfl) (fun _ _ _ h => h) (Or.inl ⟨by rfl, ?_⟩) (by assumption) ?_
                    rotate_left
                    · intro wq hSq
                      try dsimp only at hSq
                      go_simp
                      try (with_reducible rfl)
                    try simp only [Act.put, List.setIfInBounds_toArray, List.set_cons_zero, List.set_cons_succ]
                    refine wpAnyH_take (i := 3) (oi := { dst := some 138, op := Op.move (Operand.tmp 137), type := 4, pos := "law.go:71", after := #[{ on := 2, ground := Ground.data }], guard := none }) (v := ?_) rfl (by kernel_rfl) (by kernel_rfl) (by kernel_rfl) (fun _ _ _ h => h) (Or.inl ⟨by rfl, ?_⟩) (by assumption) ?_
                    rotate_left
                    · intro wq hSq
                      try dsimp only at hSq
                      go_simp
                      try (with_reducible rfl)
                    try simp only [Act.put, List.setIfInBounds_toArray, List.set_cons_zero, List.set_cons_succ]
                    refine wpAnyH_take (i := 4) (oi := { dst := some 139, op := Op.move (Operand.tmp 26), type := 4, pos := "law.go:71", after := #[{ on := 3, ground := Ground.guard }], guard := some (3, false) }) (v := ?_) rfl (by kernel_rfl) (by kernel_rfl) (by kernel_rfl) (fun _ _ _ h => h) (Or.inl ⟨by rfl, ?_⟩) (by assumption) ?_
                    rotate_left
                    · intro wq hSq
                      try dsimp only at hSq
                      go_simp
                      try (with_reducible rfl)
                    try simp only [Act.put, List.setIfInBounds_toArray, List.set_cons_zero, List.set_cons_succ]
                    refine wpAnyH_take (i := 5) (oi := { dst := some 140, op := Op.fieldAddr 42 (Operand.tmp 23) 3, type := 0, pos := "law.go:71", after := #[{ on := 3, ground := Ground.guard }], guard := some (3, false) }) (v := ?_) rfl (by kernel_rfl) (by kernel_rfl) (by kernel_rfl) (fun _ _ _ h => h) (Or.inl ⟨by rfl, ?_⟩) (by assumption) ?_
                    rotate_left
                    · intro wq hSq
                      try dsimp only at hSq
                      go_simp
                      try (with_reducible rfl)
                    try simp only [Act.put, List.setIfInBounds_toArray, List.set_cons_zero, List.set_cons_succ]
                    refine wpAnyH_take (i := 6) (oi := { dst := some 141, op := Op.load 4 (Operand.tmp 140), type := 4, pos := "law.go:71", after := #[{ on := 5, ground := Ground.data }, { on := 3, ground := Ground.guard }], guard := some (3, false) }) (v := ?_) rfl (by kernel_rfl) (by kernel_rfl) (by kernel_rfl) (fun _ _ _ h => h) (Or.inl ⟨by rfl, ?_⟩) (by assumption) ?_
                    rotate_left
                    · intro wq hSq
                      try dsimp only at hSq
                      go_simp
                      try (with_reducible rfl)
                    try simp only [Act.put, List.setIfInBounds_toArray, List.set_cons_zero, List.set_cons_succ]
                    refine wpAnyH_take (i := 7) (oi := { dst := some 142, op := Op.binOp BinOp.neq 4 (Operand.tmp 139) (Operand.tmp 141) 4, type := 4, pos := "law.go:71", after := #[{ on := 4, ground := Ground.data }, { on := 6, ground := Ground.data }, { on := 3, ground := Ground.guard }], guard := some (3, false) }) (v := ?_) rfl (by kernel_rfl) (by kernel_rfl) (by kernel_rfl) (fun _ _ _ h => h) (Or.inl ⟨by rfl, ?_⟩) (by assumption) ?_
                    rotate_left
                    · intro wq hSq
                      try dsimp only at hSq
                      go_simp
                      try (with_reducible rfl)
                    try simp only [Act.put, List.setIfInBounds_toArray, List.set_cons_zero, List.set_cons_succ]
                    refine wpAnyH_take (i := 8) (oi := { dst := some 143, op := Op.pick (Operand.tmp 138) (Operand.const (Value.bool true)) (Operand.tmp 142), type := 4, pos := "law.go:71", after := #[{ on := 3, ground := Ground.data }, { on := 7, ground := Ground.data }], guard := none }) (v := ?_) rfl (by kernel_rfl) (by kernel_rfl) (by kernel_rfl) (fun _ _ _ h => h) (Or.inl ⟨by rfl, ?_⟩) (by assumption) ?_
                    rotate_left
                    · intro wq hSq
                      try dsimp only at hSq
                      go_simp
                      try (with_reducible rfl)
                    try simp only [Act.put, List.setIfInBounds_toArray, List.set_cons_zero, List.set_cons_succ]
                    refine wpAnyH_take (i := 9) (oi := { dst := some 144, op := Op.move (Operand.tmp 143), type := 4, pos := "law.go:71", after := #[{ on := 8, ground := Ground.data }, { on := 3, ground := Ground.chain }], guard := none }) (v := ?_) rfl (by kernel_rfl) (by kernel_rfl) (by kernel_rfl) (fun _ _ _ h => h) (Or.inl ⟨by rfl, ?_⟩) (by assumption) ?_
                    rotate_left
                    · intro wq hSq
                      try dsimp only at hSq
                      go_simp
                      try (with_reducible rfl)
                    try simp only [Act.put, List.setIfInBounds_toArray, List.set_cons_zero, List.set_cons_succ]
                    refine wpAnyH_take (i := 10) (oi := { dst := some 145, op := Op.move (Operand.tmp 21), type := 4, pos := "law.go:71", after := #[{ on := 9, ground := Ground.guard }], guard := some (9, false) }) (v := ?_) rfl (by kernel_rfl) (by kernel_rfl) (by kernel_rfl) (fun _ _ _ h => h) (Or.inl ⟨by rfl, ?_⟩) (by assumption) ?_
                    rotate_left
                    · intro wq hSq
                      try dsimp only at hSq
                      go_simp
                      try (with_reducible rfl)
                    try simp only [Act.put, List.setIfInBounds_toArray, List.set_cons_zero, List.set_cons_succ]
                    refine wpAnyH_take (i := 11) (oi := { dst := some 146, op := Op.move (Operand.tmp 145), type := 4, pos := "law.go:71", after := #[{ on := 10, ground := Ground.data }, { on := 9, ground := Ground.chain }, { on := 9, ground := Ground.guard }], guard := some (9, false) }) (v := ?_) rfl (by kernel_rfl) (by kernel_rfl) (by kernel_rfl) (fun _ _ _ h => h) (Or.inl ⟨by rfl, ?_⟩) (by assumption) ?_
                    rotate_left
                    · intro wq hSq
                      try dsimp only at hSq
                      go_simp
                      try (with_reducible rfl)
                    try simp only [Act.put, List.setIfInBounds_toArray, List.set_cons_zero, List.set_cons_succ]
                    refine wpAnyH_take (i := 12) (oi := { dst := some 147, op := Op.load 45 (Operand.tmp 25), type := 45, pos := "law.go:71", after := #[{ on := 11, ground := Ground.guard }], guard := some (11, true) }) (v := undef) rfl (by kernel_rfl) (by kernel_rfl) (by kernel_rfl) (fun _ _ _ h => h) (Or.inr ⟨by rfl, rfl⟩) (by assumption) ?_
                    try simp only [Act.put, List.setIfInBounds_toArray, List.set_cons_zero, List.set_cons_succ]
                    refine wpAnyH_take (i := 13) (oi := { dst := some 148, op := Op.build 45 #[], type := 45, pos := "law.go:71", after := #[{ on := 11, ground := Ground.guard }], guard := some (11, true) }) (v := undef) rfl (by kernel_rfl) (by kernel_rfl) (by kernel_rfl) (fun _ _ _ h => h) (Or.inr ⟨by rfl, rfl⟩) (by assumption) ?_
                    try simp only [Act.put, List.setIfInBounds_toArray, List.set_cons_zero, List.set_cons_succ]
                    refine wpAnyH_take (i := 14) (oi := { dst := some 149, op := Op.binOp BinOp.neq 45 (Operand.tmp 147) (Operand.tmp 148) 45, type := 4, pos := "law.go:71", after := #[{ on := 12, ground := Ground.data }, { on := 13, ground := Ground.data }, { on := 11, ground := Ground.guard }], guard := some (11, true) }) (v := undef) rfl (by kernel_rfl) (by kernel_rfl) (by kernel_rfl) (fun _ _ _ h => h) (Or.inr ⟨by rfl, rfl⟩) (by assumption) ?_
                    try simp only [Act.put, List.setIfInBounds_toArray, List.set_cons_zero, List.set_cons_succ]
                    refine wpAnyH_take (i := 15) (oi := { dst := some 150, op := Op.pick (Operand.tmp 146) (Operand.tmp 149) (Operand.const (Value.bool false)), type := 4, pos := "law.go:71", after := #[{ on := 11, ground := Ground.data }, { on := 14, ground := Ground.data }, { on := 9, ground := Ground.guard }], guard := some (9, false) }) (v := ?_) rfl (by kernel_rfl) (by kernel_rfl) (by kernel_rfl) (fun _ _ _ h => h) (Or.inl ⟨by rfl, ?_⟩) (by assumption) ?_
                    rotate_left
                    · intro wq hSq
                      try dsimp only at hSq
                      go_simp
                      try (with_reducible rfl)
                    try simp only [Act.put, List.setIfInBounds_toArray, List.set_cons_zero, List.set_cons_succ]
                    refine wpAnyH_take (i := 16) (oi := { dst := some 151, op := Op.pick (Operand.tmp 144) (Operand.const (Value.bool true)) (Operand.tmp 150), type := 4, pos := "law.go:71", after := #[{ on := 9, ground := Ground.data }, { on := 15, ground := Ground.data }], guard := none }) (v := ?_) rfl (by kernel_rfl) (by kernel_rfl) (by kernel_rfl) (fun _ _ _ h => h) (Or.inl ⟨by rfl, ?_⟩) (by assumption) ?_
                    rotate_left
                    · intro wq hSq
                      try dsimp only at hSq
                      go_simp
                      try (with_reducible rfl)
                    try simp only [Act.put, List.setIfInBounds_toArray, List.set_cons_zero, List.set_cons_succ]
                    refine wpAnyH_take (i := 17) (oi := { dst := some 152, op := Op.move (Operand.tmp 151), type := 4, pos := "law.go:71", after := #[{ on := 16, ground := Ground.data }, { on := 11, ground := Ground.chain }], guard := none }) (v := ?_) rfl (by kernel_rfl) (by kernel_rfl) (by kernel_rfl) (fun _ _ _ h => h) (Or.inl ⟨by rfl, ?_⟩) (by assumption) ?_
                    rotate_left
                    · intro wq hSq
                      try dsimp only at hSq
                      go_simp
                      try (with_reducible rfl)
                    try simp only [Act.put, List.setIfInBounds_toArray, List.set_cons_zero, List.set_cons_succ]
                    refine wpAnyH_take (i := 18) (oi := { dst := some 153, op := Op.move (Operand.tmp 9), type := 31, pos := "law.go:71", after := #[{ on := 17, ground := Ground.guard }], guard := some (17, false) }) (v := ?_) rfl (by kernel_rfl) (by kernel_rfl) (by kernel_rfl) (fun _ _ _ h => h) (Or.inl ⟨by rfl, ?_⟩) (by assumption) ?_
                    rotate_left
                    · intro wq hSq
                      try dsimp only at hSq
                      go_simp
                      try (with_reducible rfl)
                    try simp only [Act.put, List.setIfInBounds_toArray, List.set_cons_zero, List.set_cons_succ]
                    refine wpAnyH_take (i := 19) (oi := { dst := some 154, op := Op.move (Operand.tmp 20), type := 3, pos := "law.go:71", after := #[{ on := 17, ground := Ground.guard }], guard := some (17, false) }) (v := ?_) rfl (by kernel_rfl) (by kernel_rfl) (by kernel_rfl) (fun _ _ _ h => h) (Or.inl ⟨by rfl, ?_⟩) (by assumption) ?_
                    rotate_left
                    · intro wq hSq
                      try dsimp only at hSq
                      go_simp
                      try (with_reducible rfl)
                    try simp only [Act.put, List.setIfInBounds_toArray, List.set_cons_zero, List.set_cons_succ]
                    refine wpAnyH_take (i := 20) (oi := { dst := some 155, op := Op.indexAddr 31 (Operand.tmp 153) (Operand.tmp 154), type := 0, pos := "law.go:71", after := #[{ on := 18, ground := Ground.data }, { on := 19, ground := Ground.data }, { on := 17, ground := Ground.guard }], guard := some (17, false) }) (v := ?_) rfl (by kernel_rfl) (by kernel_rfl) (by kernel_rfl) (fun _ _ _ h => h) (Or.inl ⟨by rfl, ?_⟩) (by assumption) ?_
                    rotate_left
                    · intro wq hSq
                      try dsimp only at hSq
                      go_simp
                      try (with_reducible rfl)
                    try simp only [Act.put, List.setIfInBounds_toArray, List.set_cons_zero, List.set_cons_succ]
                    refine wpAnyH_take (i := 21) (oi := { dst := some 156, op := Op.load 36 (Operand.tmp 155), type := 36, pos := "law.go:71", after := #[{ on := 20, ground := Ground.data }, { on := 17, ground := Ground.guard }], guard := some (17, false) }) (v := ?_) rfl (by kernel_rfl) (by kernel_rfl) (by kernel_rfl) (fun _ _ _ h => h) (Or.inl ⟨by rfl, ?_⟩) (by assumption) ?_
                    rotate_left
                    · intro wq hSq
                      try dsimp only at hSq
                      go_simp
                      try (with_reducible rfl)
                    try simp only [Act.put, List.setIfInBounds_toArray, List.set_cons_zero, List.set_cons_succ]
                    refine wpAnyH_take (i := 23) (oi := { dst := some 158, op := Op.fieldAddr 42 (Operand.tmp 23) 3, type := 0, pos := "law.go:71", after := #[{ on := 17, ground := Ground.guard }], guard := some (17, false) }) (v := ?_) rfl (by kernel_rfl) (by kernel_rfl) (by kernel_rfl) (fun _ _ _ h => h) (Or.inl ⟨by rfl, ?_⟩) (by assumption) ?_
                    rotate_left
                    · intro wq hSq
                      try dsimp only at hSq
                      go_simp
                      try (with_reducible rfl)
                    try simp only [Act.put, List.setIfInBounds_toArray, List.set_cons_zero, List.set_cons_succ]
                    refine wpAnyH_take (i := 24) (oi := { dst := some 159, op := Op.load 4 (Operand.tmp 158), type := 4, pos := "law.go:71", after := #[{ on := 23, ground := Ground.data }, { on := 17, ground := Ground.guard }], guard := some (17, false) }) (v := ?_) rfl (by kernel_rfl) (by kernel_rfl) (by kernel_rfl) (fun _ _ _ h => h) (Or.inl ⟨by rfl, ?_⟩) (by assumption) ?_
                    rotate_left
                    · intro wq hSq
                      try dsimp only at hSq
                      go_simp
                      try (with_reducible rfl)
                    try simp only [Act.put, List.setIfInBounds_toArray, List.set_cons_zero, List.set_cons_succ]
                    refine wpAnyH_ready (rs := [22]) (by kernel_rfl) (by simp) ?_
                    refine AllReadyH.cons (o := { dst := some 157, op := Op.call { callee := Callee.value (Operand.func 15), args := #[Operand.tmp 156], argTypes := #[36] }, type := 4, pos := "law.go:71", after := #[{ on := 21, ground := Ground.data }, { on := 17, ground := Ground.chain }, { on := 17, ground := Ground.guard }], guard := some (17, false) }) rfl (fun K hK => ?_) AllReadyH.nil
                    go_simp
                    (go_at_call 15; refine (gdone_at HRz.out.drew HOK2.out.ph HL.out).mono ?_; rintro e wx ⟨rfl, rfl⟩)
                    try go_wp2_with fail
                    refine hK.out _ _ ?_ (fun hHeld1 => ?_)
                    · try dsimp only
                      (first | (with_reducible exact ⟨yu4, yu5, yv0, yv1, yv2, yv3, yv4, yg0, yg1, yg2, yg3, yg4, ypc⟩) | (with_reducible exact ⟨xu4, xu5, xv0, xv1, xv2, xv3, xv4, xg0, xg1, xg2, xg3, xg4, xpc⟩) | go_keep)
                    clear hK K hHeld0
                    try simp only [Act.put, List.setIfInBounds_toArray, List.set_cons_zero, List.set_cons_succ]
                    refine wpAnyH_take (i := 25) (oi := { dst := some 160, op := Op.binOp BinOp.neq 4 (Operand.tmp 157) (Operand.tmp 159) 4, type := 4, pos := "law.go:71", after := #[{ on := 22, ground := Ground.data }, { on := 24, ground := Ground.data }, { on := 17, ground := Ground.guard }], guard := some (17, false) }) (v := ?_) rfl (by kernel_rfl) (by kernel_rfl) (by kernel_rfl) (fun _ _ _ h => h) (Or.inl ⟨by rfl, ?_⟩) (by assumption) ?_
                    rotate_left
                    · intro wq hSq
                      try dsimp only at hSq
                      go_simp
                      try (with_reducible rfl)
                    try simp only [Act.put, List.setIfInBounds_toArray, List.set_cons_zero, List.set_cons_succ]
                    refine wpAnyH_take (i := 26) (oi := { dst := some 161, op := Op.pick (Operand.tmp 152) (Operand.const (Value.bool true)) (Operand.tmp 160), type := 4, pos := "law.go:71", after := #[{ on := 17, ground := Ground.data }, { on := 25, ground := Ground.data }], guard := none }) (v := ?_) rfl (by kernel_rfl) (by kernel_rfl) (by kernel_rfl) (fun _ _ _ h => h) (Or.inl ⟨by rfl, ?_⟩) (by assumption) ?_
                    rotate_left
                    · intro wq hSq
                      try dsimp only at hSq
                      go_simp
                      try (with_reducible rfl)
                    try simp only [Act.put, List.setIfInBounds_toArray, List.set_cons_zero, List.set_cons_succ]
                    refine wpAnyH_take (i := 27) (oi := { dst := some 162, op := Op.move (Operand.tmp 161), type := 4, pos := "law.go:71", after := #[{ on := 26, ground := Ground.data }, { on := 22, ground := Ground.chain }], guard := none }) (v := ?_) rfl (by kernel_rfl) (by kernel_rfl) (by kernel_rfl) (fun _ _ _ h => h) (Or.inl ⟨by rfl, ?_⟩) (by assumption) ?_
                    rotate_left
                    · intro wq hSq
                      try dsimp only at hSq
                      go_simp
                      try (with_reducible rfl)
                    try simp only [Act.put, List.setIfInBounds_toArray, List.set_cons_zero, List.set_cons_succ]
                    refine wpAnyH_take (i := 28) (oi := { dst := some 163, op := Op.move (Operand.tmp 9), type := 31, pos := "law.go:71", after := #[{ on := 27, ground := Ground.guard }], guard := some (27, false) }) (v := ?_) rfl (by kernel_rfl) (by kernel_rfl) (by kernel_rfl) (fun _ _ _ h => h) (Or.inl ⟨by rfl, ?_⟩) (by assumption) ?_
                    rotate_left
                    · intro wq hSq
                      try dsimp only at hSq
                      go_simp
                      try (with_reducible rfl)
                    try simp only [Act.put, List.setIfInBounds_toArray, List.set_cons_zero, List.set_cons_succ]
                    refine wpAnyH_take (i := 29) (oi := { dst := some 164, op := Op.move (Operand.tmp 20), type := 3, pos := "law.go:71", after := #[{ on := 27, ground := Ground.guard }], guard := some (27, false) }) (v := ?_) rfl (by kernel_rfl) (by kernel_rfl) (by kernel_rfl) (fun _ _ _ h => h) (Or.inl ⟨by rfl, ?_⟩) (by assumption) ?_
                    rotate_left
                    · intro wq hSq
                      try dsimp only at hSq
                      go_simp
                      try (with_reducible rfl)
                    try simp only [Act.put, List.setIfInBounds_toArray, List.set_cons_zero, List.set_cons_succ]
                    refine wpAnyH_take (i := 30) (oi := { dst := some 165, op := Op.indexAddr 31 (Operand.tmp 163) (Operand.tmp 164), type := 0, pos := "law.go:71", after := #[{ on := 28, ground := Ground.data }, { on := 29, ground := Ground.data }, { on := 27, ground := Ground.guard }], guard := some (27, false) }) (v := ?_) rfl (by kernel_rfl) (by kernel_rfl) (by kernel_rfl) (fun _ _ _ h => h) (Or.inl ⟨by rfl, ?_⟩) (by assumption) ?_
                    rotate_left
                    · intro wq hSq
                      try dsimp only at hSq
                      go_simp
                      try (with_reducible rfl)
                    try simp only [Act.put, List.setIfInBounds_toArray, List.set_cons_zero, List.set_cons_succ]
                    refine wpAnyH_take (i := 31) (oi := { dst := some 166, op := Op.load 36 (Operand.tmp 165), type := 36, pos := "law.go:71", after := #[{ on := 30, ground := Ground.data }, { on := 27, ground := Ground.guard }], guard := some (27, false) }) (v := ?_) rfl (by kernel_rfl) (by kernel_rfl) (by kernel_rfl) (fun _ _ _ h => h) (Or.inl ⟨by rfl, ?_⟩) (by assumption) ?_
                    rotate_left
                    · intro wq hSq
                      try dsimp only at hSq
                      go_simp
                      try (with_reducible rfl)
                    try simp only [Act.put, List.setIfInBounds_toArray, List.set_cons_zero, List.set_cons_succ]
                    refine wpAnyH_take (i := 33) (oi := { dst := some 168, op := Op.fieldAddr 42 (Operand.tmp 23) 4, type := 0, pos := "law.go:71", after := #[{ on := 27, ground := Ground.guard }], guard := some (27, false) }) (v := ?_) rfl (by kernel_rfl) (by kernel_rfl) (by kernel_rfl) (fun _ _ _ h => h) (Or.inl ⟨by rfl, ?_⟩) (by assumption) ?_
                    rotate_left
                    · intro wq hSq
                      try dsimp only at hSq
                      go_simp
                      try (with_reducible rfl)
                    try simp only [Act.put, List.setIfInBounds_toArray, List.set_cons_zero, List.set_cons_succ]
                    refine wpAnyH_take (i := 34) (oi := { dst := some 169, op := Op.load 22 (Operand.tmp 168), type := 22, pos := "law.go:71", after := #[{ on := 33, ground := Ground.data }, { on := 27, ground := Ground.guard }], guard := some (27, false) }) (v := ?_) rfl (by kernel_rfl) (by kernel_rfl) (by kernel_rfl) (fun _ _ _ h => h) (Or.inl ⟨by rfl, ?_⟩) (by assumption) ?_
                    rotate_left
                    · intro wq hSq
                      try dsimp only at hSq
                      go_simp
                      try (with_reducible rfl)
                    try simp only [Act.put, List.setIfInBounds_toArray, List.set_cons_zero, List.set_cons_succ]
                    refine wpAnyH_ready (rs := [32]) (by kernel_rfl) (by simp) ?_
                    refine AllReadyH.cons (o := { dst := some 167, op := Op.call { callee := Callee.value (Operand.func 17), args := #[Operand.tmp 166], argTypes := #[36] }, type := 22, pos := "law.go:71", after := #[{ on := 31, ground := Ground.data }, { on := 27, ground := Ground.chain }, { on := 27, ground := Ground.guard }], guard := some (27, false) }) rfl (fun K hK => ?_) AllReadyH.nil
                    go_simp
                    (go_at_call 17; refine (ganswer_op HRz.out.drew).mono ?_; rintro e wx ⟨rfl, rfl⟩)
                    try go_wp2_with fail
                    refine hK.out _ _ ?_ (fun hHeld2 => ?_)
                    · try dsimp only
                      (first | (with_reducible exact ⟨yu4, yu5, yv0, yv1, yv2, yv3, yv4, yg0, yg1, yg2, yg3, yg4, ypc⟩) | (with_reducible exact ⟨xu4, xu5, xv0, xv1, xv2, xv3, xv4, xg0, xg1, xg2, xg3, xg4, xpc⟩) | go_keep)
                    clear hK K hHeld1
                    try simp only [Act.put, List.setIfInBounds_toArray, List.set_cons_zero, List.set_cons_succ]
                    refine wpAnyH_ready (rs := [35]) (by kernel_rfl) (by simp) ?_
                    refine AllReadyH.cons (o := { dst := some 170, op := Op.call { callee := Callee.value (Operand.func 16), args := #[Operand.tmp 167, Operand.tmp 169], argTypes := #[22, 22] }, type := 4, pos := "law.go:71", after := #[{ on := 32, ground := Ground.data }, { on := 34, ground := Ground.data }, { on := 32, ground := Ground.chain }, { on := 27, ground := Ground.guard }], guard := some (27, false) }) rfl (fun K hK => ?_) AllReadyH.nil
                    go_simp
                    (go_at_call 16; refine (run_same HOK2.out.ans HS2.out.lt HS2.out.ans.symm _).mono ?_; rintro e wx ⟨rfl, rfl⟩)
                    try go_wp2_with fail
                    refine hK.out _ _ ?_ (fun hHeld3 => ?_)
                    · try dsimp only
                      (first | (with_reducible exact ⟨yu4, yu5, yv0, yv1, yv2, yv3, yv4, yg0, yg1, yg2, yg3, yg4, ypc⟩) | (with_reducible exact ⟨xu4, xu5, xv0, xv1, xv2, xv3, xv4, xg0, xg1, xg2, xg3, xg4, xpc⟩) | go_keep)
                    clear hK K hHeld2
                    try simp only [Act.put, List.setIfInBounds_toArray, List.set_cons_zero, List.set_cons_succ]
                    refine wpAnyH_take (i := 36) (oi := { dst := some 171, op := Op.unOp UnOp.not 4 (Operand.tmp 170), type := 4, pos := "law.go:71", after := #[{ on := 35, ground := Ground.data }, { on := 27, ground := Ground.guard }], guard := some (27, false) }) (v := ?_) rfl (by kernel_rfl) (by kernel_rfl) (by kernel_rfl) (fun _ _ _ h => h) (Or.inl ⟨by rfl, ?_⟩) (by assumption) ?_
                    rotate_left
                    · intro wq hSq
                      try dsimp only at hSq
                      go_simp
                      try (with_reducible rfl)
                    try simp only [Act.put, List.setIfInBounds_toArray, List.set_cons_zero, List.set_cons_succ]
                    refine wpAnyH_take (i := 37) (oi := { dst := some 172, op := Op.pick (Operand.tmp 162) (Operand.const (Value.bool true)) (Operand.tmp 171), type := 4, pos := "law.go:71", after := #[{ on := 27, ground := Ground.data }, { on := 36, ground := Ground.data }], guard := none }) (v := ?_) rfl (by kernel_rfl) (by kernel_rfl) (by kernel_rfl) (fun _ _ _ h => h) (Or.inl ⟨by rfl, ?_⟩) (by assumption) ?_
                    rotate_left
                    · intro wq hSq
                      try dsimp only at hSq
                      go_simp
                      try (with_reducible rfl)
                    try simp only [Act.put, List.setIfInBounds_toArray, List.set_cons_zero, List.set_cons_succ]
                    refine wpAnyH_take (i := 38) (oi := { dst := some 173, op := Op.move (Operand.tmp 172), type := 4, pos := "law.go:71", after := #[{ on := 37, ground := Ground.data }, { on := 35, ground := Ground.chain }], guard := none }) (v := ?_) rfl (by kernel_rfl) (by kernel_rfl) (by kernel_rfl) (fun _ _ _ h => h) (Or.inl ⟨by rfl, ?_⟩) (by assumption) ?_
                    rotate_left
                    · intro wq hSq
                      try dsimp only at hSq
                      go_simp
                      try (with_reducible rfl)
                    try simp only [Act.put, List.setIfInBounds_toArray, List.set_cons_zero, List.set_cons_succ]
                    refine wpAnyH_take (i := 39) (oi := { dst := some 174, op := Op.move (Operand.tmp 7), type := 26, pos := "law.go:71", after := #[{ on := 38, ground := Ground.guard }], guard := some (38, false) }) (v := ?_) rfl (by kernel_rfl) (by kernel_rfl) (by kernel_rfl) (fun _ _ _ h => h) (Or.inl ⟨by rfl, ?_⟩) (by assumption) ?_
                    rotate_left
                    · intro wq hSq
                      try dsimp only at hSq
                      go_simp
                      try (with_reducible rfl)
                    try simp only [Act.put, List.setIfInBounds_toArray, List.set_cons_zero, List.set_cons_succ]
                    refine wpAnyH_take (i := 42) (oi := { dst := some 177, op := Op.move (Operand.tmp 8), type := 29, pos := "law.go:71", after := #[{ on := 38, ground := Ground.guard }], guard := some (38, false) }) (v := ?_) rfl (by kernel_rfl) (by kernel_rfl) (by kernel_rfl) (fun _ _ _ h => h) (Or.inl ⟨by rfl, ?_⟩) (by assumption) ?_
                    rotate_left
                    · intro wq hSq
                      try dsimp only at hSq
                      go_simp
                      try (with_reducible rfl)
                    try simp only [Act.put, List.setIfInBounds_toArray, List.set_cons_zero, List.set_cons_succ]
                    refine wpAnyH_ready (rs := [40]) (by kernel_rfl) (by simp) ?_
                    refine AllReadyH.cons (o := { dst := some 175, op := Op.call { callee := Callee.value (Operand.func 19), args := #[Operand.tmp 174], argTypes := #[26] }, type := 22, pos := "law.go:71", after := #[{ on := 39, ground := Ground.data }, { on := 38, ground := Ground.chain }, { on := 38, ground := Ground.guard }], guard := some (38, false) }) rfl (fun K hK => ?_) AllReadyH.nil
                    go_simp
                    (go_at_call 19; refine (gget_any HBz.out.drew.both.many.one.gau).mono ?_; rintro e w9 ⟨rfl, hS, hP⟩; have HB9 := Lib.hid (HBz.out.drew.word hS hP); have hbw := HBz.out.both.many.one.gau.words.row; have hdA := HD1.out.drew.part hP (by simpa using HD1.out.ne hbw (by decide)); have hdB := HD2.out.drew.part hP (by simpa using HD2.out.ne hbw (by decide)); have hdC := HD3.out.drew.part hP (by simpa using HD3.out.ne hbw (by decide)); obtain ⟨yu4, yu5⟩ := hdA.six; obtain ⟨yv0, yv1, yv2, yv3, yv4⟩ := hdB.five; obtain ⟨yg0, yg1, yg2, yg3, yg4⟩ := hdC.five; have ypc := own_cell HB9.out.both.many.ps (ptrs_get HBb.out); have ylt1 := hdA.lt; have ylt2 := hdB.lt; have ylt3 := hdC.lt; have ylt4 : g < _ := World.block_lt_of_cell? _ _ ypc; clear hbw hdA hdB hdC hS hP)
                    try go_wp2_with fail
                    refine hK.out _ _ ?_ (fun hHeld4 => ?_)
                    · try dsimp only
                      (first | (with_reducible exact ⟨yu4, yu5, yv0, yv1, yv2, yv3, yv4, yg0, yg1, yg2, yg3, yg4, ypc⟩) | (with_reducible exact ⟨xu4, xu5, xv0, xv1, xv2, xv3, xv4, xg0, xg1, xg2, xg3, xg4, xpc⟩) | go_keep)
                    clear hK K hHeld3
                    try simp only [Act.put, List.setIfInBounds_toArray, List.set_cons_zero, List.set_cons_succ]
                    refine wpAnyH_ready (rs := [41]) (by kernel_rfl) (by simp) ?_
                    refine AllReadyH.cons (o := { dst := some 176, op := Op.call { callee := Callee.value (Operand.func 18), args := #[Operand.tmp 175], argTypes := #[22] }, type := 29, pos := "law.go:71", after := #[{ on := 40, ground := Ground.data }, { on := 40, ground := Ground.chain }, { on := 38, ground := Ground.guard }], guard := some (38, false) }) rfl (fun K hK => ?_) AllReadyH.nil
                    go_simp
                    (go_at_call 18; (with_reducible refine (gbits_at HB9.out.both.many.one.gau.ok HCN2.out _).mono ?_); rintro e wx ⟨rfl, rfl⟩)
                    try go_wp2_with fail
                    refine hK.out _ _ ?_ (fun hHeld5 => ?_)
                    · try dsimp only
                      (first | (with_reducible exact ⟨yu4, yu5, yv0, yv1, yv2, yv3, yv4, yg0, yg1, yg2, yg3, yg4, ypc⟩) | (with_reducible exact ⟨xu4, xu5, xv0, xv1, xv2, xv3, xv4, xg0, xg1, xg2, xg3, xg4, xpc⟩) | go_keep)
                    clear hK K hHeld4
                    try simp only [Act.put, List.setIfInBounds_toArray, List.set_cons_zero, List.set_cons_succ]
                    refine wpAnyH_take (i := 43) (oi := { dst := some 178, op := Op.binOp BinOp.neq 29 (Operand.tmp 176) (Operand.tmp 177) 29, type := 4, pos := "law.go:71", after := #[{ on := 41, ground := Ground.data }, { on := 42, ground := Ground.data }, { on := 38, ground := Ground.guard }], guard := some (38, false) }) (v := ?_) rfl (by kernel_rfl) (by kernel_rfl) (by kernel_rfl) (fun _ _ _ h => h) (Or.inl ⟨by rfl, ?_⟩) (by assumption) ?_
                    rotate_left
                    · intro wq hSq
                      try dsimp only at hSq
                      go_simp
                      try (with_reducible rfl)
                    try simp only [Act.put, List.setIfInBounds_toArray, List.set_cons_zero, List.set_cons_succ]
                    refine wpAnyH_take (i := 44) (oi := { dst := some 179, op := Op.pick (Operand.tmp 173) (Operand.const (Value.bool true)) (Operand.tmp 178), type := 4, pos := "law.go:71", after := #[{ on := 38, ground := Ground.data }, { on := 43, ground := Ground.data }], guard := none }) (v := ?_) rfl (by kernel_rfl) (by kernel_rfl) (by kernel_rfl) (fun _ _ _ h => h) (Or.inl ⟨by rfl, ?_⟩) (by assumption) ?_
                    rotate_left
                    · intro wq hSq
                      try dsimp only at hSq
                      go_simp
                      try (with_reducible rfl)
                    try simp only [Act.put, List.setIfInBounds_toArray, List.set_cons_zero, List.set_cons_succ]
                    refine wpAnyH_done (by kernel_rfl) ?_ _
                    all_goals
                      go_wp2_with fail
                      go_roundw
                      case rel => exact ⟨j + 1, by omega, by go_num, T', _, rfl, HCN2.out, by first | exact HB9.out | exact HB9.out.drew⟩
                      case measure => simp [intOf]; omega
                · obtain rfl : j = ord.length := by omega
                  go_wp2
                  go_roundw
                  case rel => exact ⟨r + 1, by omega, by go_num, T, us, rfl, HCN.out, HZ.out⟩
                  case measure => simp [intOf]; omega
            · obtain rfl : r = 2 := by omega
              go_wp2
              go_ret
              exact ⟨rfl, HZ0.out.both.many.low⟩
end Go.Proofs.Ytcocegneegjcpaa
