/- THE WALK of the law 'GaugesPlain'. -/
import Derived.Test.YtigknlipeipbgaaGs
import Derived.Test.YtigknlipeipbgaaGo
import Derived.Test.YtigknlipeipbgaaGi
import Derived.Test.YtigknlipeipbgaaRg
namespace Go.Proofs.Ytigknlipeipbgaa
open Go Go.RowKit

theorem doneW_canon {k : Int} {x T : Nat} (h : GM.bitsOf T = T) : GM.bitsOf (doneW k x T) = doneW k x T := by
  unfold doneW
  split
  · exact GM.bits_bits x
  · cases hp : putG k x T with
    | none => exact h
    | some p =>
      show GM.bitsOf p = p
      unfold putG at hp
      repeat' (split at hp)
      all_goals first | (cases hp; done) | (cases hp; exact addB_canon _ _) | (cases hp; exact GM.bits_bits _)
theorem rdo_at {T x T' : Nat} {k : Int} (lx : B64 x) (lT : B64 T) (hT : doneW k x T = T') (w : World) :
    Calls Try.prog 27 #[.int .u64 (T : Nat), .agg #[.int .u8 k, .float .f64 x]] w fun e w' => ∃ r, e = .returned (.tuple #[.int .u64 (T' : Nat), .float .f64 r]) ∧ B64 r ∧ GM.bitsOf r = GM.bitsOf T' ∧ Below w.heap.size w w' := by
  by_cases k2 : k = 2
  · subst k2
    have : T' = GM.bitsOf x := by rw [← hT]; rfl
    subst this
    refine (rdo_set (k := 2) lx lT w).mono fun e w' ⟨r, h1, h2, h3, h4⟩ => ⟨r, h1, h2, ?_, h4⟩
    first | exact h3 | (rw [h3, GM.bits_bits]) | (rw [h3])
  · have e2 : (k == 2) = false := by simpa using k2
    cases hp : putG k x T with
    | none =>
      have : T' = T := by rw [← hT]; simp [doneW, k2, hp]
      subst this
      exact rdo_ends lx lT e2 hp w
    | some p =>
      have : T' = p := by rw [← hT]; simp [doneW, k2, hp]
      subst this
      exact rdo_two lx lT e2 hp w
section
variable {w : World} {bg bk bw T x T' : Nat}
theorem gget_at (h : Gau w bg bk bw T) (hT : doneW 1 x T = T') : Calls Try.prog 24 #[.pointer (some ⟨bg, 0, none⟩)] w (WholeG w bg bk bw T' (.float .f64 T')) := by
  have : T' = T := by rw [← hT]; simp [doneW, putG]
  subst this
  exact gget_any h
theorem gset_at (h : Gau w bg bk bw T) (lx : B64 x) (hT : doneW 2 x T = T') : Calls Try.prog 14 #[.pointer (some ⟨bg, 0, none⟩), .float .f64 x] w (WholeG w bg bk bw T' (.float .f64 T')) := by
  have : T' = GM.bitsOf x := by rw [← hT]; rfl
  subst this
  exact gset_any h lx
theorem gadd_at (h : Gau w bg bk bw T) (lx : B64 x) (hT : doneW 3 x T = T') : Calls Try.prog 28 #[.pointer (some ⟨bg, 0, none⟩), .float .f64 x] w (WholeG w bg bk bw T' (.float .f64 T')) := hT ▸ gadd_any h lx
theorem gmax_at (h : Gau w bg bk bw T) (lx : B64 x) (hT : doneW 4 x T = T') : Calls Try.prog 29 #[.pointer (some ⟨bg, 0, none⟩), .float .f64 x] w (WholeG w bg bk bw T' (.float .f64 T')) := hT ▸ gmax_any h lx
theorem gmin_at (h : Gau w bg bk bw T) (lx : B64 x) (hT : doneW 5 x T = T') : Calls Try.prog 30 #[.pointer (some ⟨bg, 0, none⟩), .float .f64 x] w (WholeG w bg bk bw T' (.float .f64 T')) := hT ▸ gmin_any h lx
theorem rright_at {k : Int} {b : Bool} (lx : B64 x) (h : grightB k x = b) (w : World) : Calls Try.prog 17 #[.agg #[.int .u8 k, .float .f64 x]] w fun e w' => e = .returned (.bool b) ∧ Below w.heap.size w w' := h ▸ rright_any lx w
end
set_option maxRecDepth 100000
set_option maxHeartbeats 12800000
theorem gplain_any {start other : Nat} {A : Option Addr} {cap : Nat} {ops : List (Int × Nat)} (W : World) (ls : B64 start) (lo : B64 other) (hE : ExtGO W A ops) (hr : ops.length * 16 ≤ 140737488351232) :
    Calls Try.prog 4 #[.float .f64 start, .float .f64 other, .slice A ops.length cap] W fun e w' => e = .returned (.bool true) ∧ Below W.heap.size W w' := by
  have HE := Lib.hid hE
  have LS := Lib.hid ls
  have LO := Lib.hid lo
  have L0 : Hid (B64 0) := Lib.hid (by unfold B64; omega)
  have HBS : Hid (GM.bitsOf (GM.bitsOf start) = GM.bitsOf start) := Lib.hid (GM.bits_bits start)
  have st := run_store_float
  clear hE ls lo
  go_enter Try.func4, Try.ntmps4
  go_wp2_with (first
    | (go_at_call 12; refine (glives_any _).mono ?_; rintro e w0 ⟨rfl, hb⟩; have HB0 := Lib.hid hb; clear hb)
    | (go_at_call 23; refine (gbits_any LS.out _).mono ?_; rintro e wx ⟨rfl, rfl⟩)
    | (go_at_call 15; refine (rbits_any LS.out _).mono ?_; rintro e wx ⟨rfl, rfl⟩)
    | (go_at_call 25; refine (gabove_any LS.out LO.out _).mono ?_; rintro e wx ⟨rfl, rfl⟩)
    | (go_at_call 26; refine (rabove_any LS.out LO.out _).mono ?_; rintro e wx ⟨rfl, rfl⟩)
    | (go_at_call 13; refine (gnew_any _).mono ?_; rintro e w1 ⟨bg, bk, bw, rfl, hg, hk, hw, hS, hb⟩; have HO1 := Lib.hid (OneG.start HB0.out hS hw hb); clear hg hk hw hS hb)
    | (go_at_call 24; refine (gget_any HO1.out.gau).mono ?_; rintro e w2 ⟨rfl, hS, hP⟩; have HO2 := Lib.hid (HO1.out.next hS hP); clear hS hP)
    | (go_at_call 14; refine (gset_any HO2.out.gau LS.out).mono ?_; rintro e w3 ⟨rfl, hS, hP⟩; have HO3 := Lib.hid (HO2.out.next hS hP); clear hS hP)
    | (go_at_call 21; (with_reducible refine (run_same HO3.out.gau.ok LS.out HBS.out _).mono ?_); rintro e wx ⟨rfl, rfl⟩)
    | (go_at_call 21; (with_reducible refine (run_same L0.out L0.out rfl _).mono ?_); rintro e wx ⟨rfl, rfl⟩))
  go_loopw [8, 49] (fun c u wr => ∃ j T : Nat, j ≤ ops.length ∧ u = .int .i64 j ∧ c = .int .u64 T ∧ GM.bitsOf T = T ∧ OneG W bg bk bw T wr) (fun _ u _ => ops.length - (intOf u).toNat)
  case atStart => exact ⟨0, _, Nat.zero_le _, rfl, rfl, HBS.out, HO3.out⟩
  case round =>
    obtain ⟨j, T, hj, rfl, rfl, hcan, hO⟩ := hrel
    have HO := Lib.hid hO
    have HCN := Lib.hid hcan
    clear hO hcan HO1 HO2 HO3
    by_cases hlt : j < ops.length
    · obtain ⟨op, hop⟩ : ∃ op, ops[j]? = some op := ⟨ops[j], List.getElem?_eq_getElem hlt⟩
      obtain ⟨b', o', rfl, hlt', q0, q1, lx⟩ := (HE.out.on HO.out.low) j _ hop
      obtain ⟨k, x⟩ := op
      have LX := Lib.hid lx
      have hlt2 : (j : Int) < (ops.length : Int) := by omega
      have hj2 : j * 2 ≤ 17592186044416 := by omega
      have hrw := Row.new wr 35 [.int .u8 k, .float .f64 x]
      have HRW := Lib.hid hrw
      have HOA : Hid (OneG W bg bk bw T (wr.alloc (.cells #[.int .u8 k, .float .f64 x] 35))) := Lib.hid (HO.out.alloc _)
      clear lx hop hrw
      dsimp only at q0 q1
      cases hg : grightB k x with
      | false =>
        have HG := Lib.hid hg
        clear hg
        go_wp2_with (go_at_call 17; refine (rright_at LX.out HG.out _).mono ?_; rintro e w1 ⟨rfl, hb⟩; have HO1 := Lib.hid (HOA.out.on hb); clear hb)
        go_roundw
        case rel => exact ⟨j + 1, T, by omega, by go_num, rfl, HCN.out, HO1.out⟩
        case measure => simp [intOf]; omega
      | true =>
        have HG := Lib.hid hg
        obtain ⟨T', hT'⟩ : ∃ T', doneW k x T = T' := ⟨_, rfl⟩
        have HC2 : Hid (GM.bitsOf T' = T') := Lib.hid (by rw [← hT']; exact doneW_canon HCN.out)
        have HT' := Lib.hid hT'
        have hk : k = 1 ∨ k = 2 ∨ k = 3 ∨ k = 4 ∨ k = 5 := by
          unfold grightB at hg
          simp at hg
          omega
        clear hg hT'
        rcases hk with rfl | rfl | rfl | rfl | rfl
        · go_wp2_with (first
            | (go_at_call 17; refine (rright_at LX.out HG.out _).mono ?_; rintro e w1 ⟨rfl, hb⟩; have HO1 := Lib.hid (HOA.out.on hb); have hR1 := HRW.out.below hb HRW.out.lt; have c0 : w1.cell? ⟨wr.heap.size, 0, none⟩ = some (.int .u8 1) := hR1.cell 0; have c1 : w1.cell? ⟨wr.heap.size, 1, none⟩ = some (.float .f64 x) := hR1.cell 1; have HR1 := Lib.hid hR1; clear hb hR1)
            | (go_at_call 27; refine (rdo_at LX.out HO1.out.gau.ok HT'.out _).mono ?_; rintro e w2 ⟨r, rfl, hr1, hr2, hb⟩; have HO2 := Lib.hid (HO1.out.on hb); have HRR := Lib.hid hr1; have HRE := Lib.hid hr2; have hR2 := HR1.out.below hb HR1.out.lt; have d0 : w2.cell? ⟨wr.heap.size, 0, none⟩ = some (.int .u8 1) := hR2.cell 0; have d1 : w2.cell? ⟨wr.heap.size, 1, none⟩ = some (.float .f64 x) := hR2.cell 1; clear hb hR2 hr1 hr2)
            | (go_at_call 24; (with_reducible refine (gget_at HO2.out.gau HT'.out).mono ?_); rintro e w3 ⟨rfl, hS, hP⟩; have HO3 := Lib.hid (HO2.out.next hS hP); clear hS hP)
            | (go_at_call 24; (with_reducible refine (gget_any HO3.out.gau).mono ?_); rintro e w4 ⟨rfl, hS, hP⟩; have HO4 := Lib.hid (HO3.out.next hS hP); clear hS hP)
            | (go_at_call 21; refine (run_same HO3.out.gau.ok HRR.out HRE.out.symm _).mono ?_; rintro e wx ⟨rfl, rfl⟩)
            | (go_at_call 23; refine (gbits_at HO4.out.gau.ok HC2.out _).mono ?_; rintro e wx ⟨rfl, rfl⟩))
          go_roundw
          case rel => exact ⟨j + 1, T', by omega, by go_num, rfl, HC2.out, HO4.out⟩
          case measure => simp [intOf]; omega
        · go_wp2_with (first
            | (go_at_call 17; refine (rright_at LX.out HG.out _).mono ?_; rintro e w1 ⟨rfl, hb⟩; have HO1 := Lib.hid (HOA.out.on hb); have hR1 := HRW.out.below hb HRW.out.lt; have c0 : w1.cell? ⟨wr.heap.size, 0, none⟩ = some (.int .u8 2) := hR1.cell 0; have c1 : w1.cell? ⟨wr.heap.size, 1, none⟩ = some (.float .f64 x) := hR1.cell 1; have HR1 := Lib.hid hR1; clear hb hR1)
            | (go_at_call 27; refine (rdo_at LX.out HO1.out.gau.ok HT'.out _).mono ?_; rintro e w2 ⟨r, rfl, hr1, hr2, hb⟩; have HO2 := Lib.hid (HO1.out.on hb); have HRR := Lib.hid hr1; have HRE := Lib.hid hr2; have hR2 := HR1.out.below hb HR1.out.lt; have d0 : w2.cell? ⟨wr.heap.size, 0, none⟩ = some (.int .u8 2) := hR2.cell 0; have d1 : w2.cell? ⟨wr.heap.size, 1, none⟩ = some (.float .f64 x) := hR2.cell 1; clear hb hR2 hr1 hr2)
            | (go_at_call 14; (with_reducible refine (gset_at HO2.out.gau LX.out HT'.out).mono ?_); rintro e w3 ⟨rfl, hS, hP⟩; have HO3 := Lib.hid (HO2.out.next hS hP); clear hS hP)
            | (go_at_call 24; (with_reducible refine (gget_any HO3.out.gau).mono ?_); rintro e w4 ⟨rfl, hS, hP⟩; have HO4 := Lib.hid (HO3.out.next hS hP); clear hS hP)
            | (go_at_call 21; refine (run_same HO3.out.gau.ok HRR.out HRE.out.symm _).mono ?_; rintro e wx ⟨rfl, rfl⟩)
            | (go_at_call 23; refine (gbits_at HO4.out.gau.ok HC2.out _).mono ?_; rintro e wx ⟨rfl, rfl⟩))
          go_roundw
          case rel => exact ⟨j + 1, T', by omega, by go_num, rfl, HC2.out, HO4.out⟩
          case measure => simp [intOf]; omega
        · go_wp2_with (first
            | (go_at_call 17; refine (rright_at LX.out HG.out _).mono ?_; rintro e w1 ⟨rfl, hb⟩; have HO1 := Lib.hid (HOA.out.on hb); have hR1 := HRW.out.below hb HRW.out.lt; have c0 : w1.cell? ⟨wr.heap.size, 0, none⟩ = some (.int .u8 3) := hR1.cell 0; have c1 : w1.cell? ⟨wr.heap.size, 1, none⟩ = some (.float .f64 x) := hR1.cell 1; have HR1 := Lib.hid hR1; clear hb hR1)
            | (go_at_call 27; refine (rdo_at LX.out HO1.out.gau.ok HT'.out _).mono ?_; rintro e w2 ⟨r, rfl, hr1, hr2, hb⟩; have HO2 := Lib.hid (HO1.out.on hb); have HRR := Lib.hid hr1; have HRE := Lib.hid hr2; have hR2 := HR1.out.below hb HR1.out.lt; have d0 : w2.cell? ⟨wr.heap.size, 0, none⟩ = some (.int .u8 3) := hR2.cell 0; have d1 : w2.cell? ⟨wr.heap.size, 1, none⟩ = some (.float .f64 x) := hR2.cell 1; clear hb hR2 hr1 hr2)
            | (go_at_call 28; (with_reducible refine (gadd_at HO2.out.gau LX.out HT'.out).mono ?_); rintro e w3 ⟨rfl, hS, hP⟩; have HO3 := Lib.hid (HO2.out.next hS hP); clear hS hP)
            | (go_at_call 24; (with_reducible refine (gget_any HO3.out.gau).mono ?_); rintro e w4 ⟨rfl, hS, hP⟩; have HO4 := Lib.hid (HO3.out.next hS hP); clear hS hP)
            | (go_at_call 21; refine (run_same HO3.out.gau.ok HRR.out HRE.out.symm _).mono ?_; rintro e wx ⟨rfl, rfl⟩)
            | (go_at_call 23; refine (gbits_at HO4.out.gau.ok HC2.out _).mono ?_; rintro e wx ⟨rfl, rfl⟩))
          go_roundw
          case rel => exact ⟨j + 1, T', by omega, by go_num, rfl, HC2.out, HO4.out⟩
          case measure => simp [intOf]; omega
        · go_wp2_with (first
            | (go_at_call 17; refine (rright_at LX.out HG.out _).mono ?_; rintro e w1 ⟨rfl, hb⟩; have HO1 := Lib.hid (HOA.out.on hb); have hR1 := HRW.out.below hb HRW.out.lt; have c0 : w1.cell? ⟨wr.heap.size, 0, none⟩ = some (.int .u8 4) := hR1.cell 0; have c1 : w1.cell? ⟨wr.heap.size, 1, none⟩ = some (.float .f64 x) := hR1.cell 1; have HR1 := Lib.hid hR1; clear hb hR1)
            | (go_at_call 27; refine (rdo_at LX.out HO1.out.gau.ok HT'.out _).mono ?_; rintro e w2 ⟨r, rfl, hr1, hr2, hb⟩; have HO2 := Lib.hid (HO1.out.on hb); have HRR := Lib.hid hr1; have HRE := Lib.hid hr2; have hR2 := HR1.out.below hb HR1.out.lt; have d0 : w2.cell? ⟨wr.heap.size, 0, none⟩ = some (.int .u8 4) := hR2.cell 0; have d1 : w2.cell? ⟨wr.heap.size, 1, none⟩ = some (.float .f64 x) := hR2.cell 1; clear hb hR2 hr1 hr2)
            | (go_at_call 29; (with_reducible refine (gmax_at HO2.out.gau LX.out HT'.out).mono ?_); rintro e w3 ⟨rfl, hS, hP⟩; have HO3 := Lib.hid (HO2.out.next hS hP); clear hS hP)
            | (go_at_call 24; (with_reducible refine (gget_any HO3.out.gau).mono ?_); rintro e w4 ⟨rfl, hS, hP⟩; have HO4 := Lib.hid (HO3.out.next hS hP); clear hS hP)
            | (go_at_call 21; refine (run_same HO3.out.gau.ok HRR.out HRE.out.symm _).mono ?_; rintro e wx ⟨rfl, rfl⟩)
            | (go_at_call 23; refine (gbits_at HO4.out.gau.ok HC2.out _).mono ?_; rintro e wx ⟨rfl, rfl⟩))
          go_roundw
          case rel => exact ⟨j + 1, T', by omega, by go_num, rfl, HC2.out, HO4.out⟩
          case measure => simp [intOf]; omega
        · go_wp2_with (first
            | (go_at_call 17; refine (rright_at LX.out HG.out _).mono ?_; rintro e w1 ⟨rfl, hb⟩; have HO1 := Lib.hid (HOA.out.on hb); have hR1 := HRW.out.below hb HRW.out.lt; have c0 : w1.cell? ⟨wr.heap.size, 0, none⟩ = some (.int .u8 5) := hR1.cell 0; have c1 : w1.cell? ⟨wr.heap.size, 1, none⟩ = some (.float .f64 x) := hR1.cell 1; have HR1 := Lib.hid hR1; clear hb hR1)
            | (go_at_call 27; refine (rdo_at LX.out HO1.out.gau.ok HT'.out _).mono ?_; rintro e w2 ⟨r, rfl, hr1, hr2, hb⟩; have HO2 := Lib.hid (HO1.out.on hb); have HRR := Lib.hid hr1; have HRE := Lib.hid hr2; have hR2 := HR1.out.below hb HR1.out.lt; have d0 : w2.cell? ⟨wr.heap.size, 0, none⟩ = some (.int .u8 5) := hR2.cell 0; have d1 : w2.cell? ⟨wr.heap.size, 1, none⟩ = some (.float .f64 x) := hR2.cell 1; clear hb hR2 hr1 hr2)
            | (go_at_call 30; (with_reducible refine (gmin_at HO2.out.gau LX.out HT'.out).mono ?_); rintro e w3 ⟨rfl, hS, hP⟩; have HO3 := Lib.hid (HO2.out.next hS hP); clear hS hP)
            | (go_at_call 24; (with_reducible refine (gget_any HO3.out.gau).mono ?_); rintro e w4 ⟨rfl, hS, hP⟩; have HO4 := Lib.hid (HO3.out.next hS hP); clear hS hP)
            | (go_at_call 21; refine (run_same HO3.out.gau.ok HRR.out HRE.out.symm _).mono ?_; rintro e wx ⟨rfl, rfl⟩)
            | (go_at_call 23; refine (gbits_at HO4.out.gau.ok HC2.out _).mono ?_; rintro e wx ⟨rfl, rfl⟩))
          go_roundw
          case rel => exact ⟨j + 1, T', by omega, by go_num, rfl, HC2.out, HO4.out⟩
          case measure => simp [intOf]; omega
    · obtain rfl : j = ops.length := by omega
      go_wp2
      go_ret
      exact ⟨rfl, HO.out.low⟩
end Go.Proofs.Ytigknlipeipbgaa
