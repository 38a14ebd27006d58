/- THE WALKS of package gauges: do, Get, Set, Add, Max, Min. -/
import Derived.Test.YtcocegneegjcpaaGg
namespace Go.Proofs.Ytcocegneegjcpaa
open Go Go.RowKit

/-- the word behind a whole operation, which is what it answers -/
def doneW (k : Int) (x T : Nat) : Nat := if k = 2 then GM.bitsOf x else (putG k x T).getD T
/-- what a whole operation leaves -/
def WholeG (w : World) (bg bk bw : Nat) (T : Nat) (v : Value) (e : Ending) (w' : World) : Prop := e = .returned v ∧ Gau w' bg bk bw T ∧ Part [bw] w w'
theorem wholeG_end {w w1 w2 : World} {bg bk bw bp T : Nat} (hb : Below w.heap.size w w1) (hbp : w.heap.size ≤ bp) (hP : Part [bw, bp] w1 w2) (hB : Gau w2 bg bk bw T) : Gau w2 bg bk bw T ∧ Part [bw] w w2 :=
  ⟨hB, Part.trans (S' := [bw, bp]) (Part.of_below hb (Nat.le_refl _) [bw]) hP (fun q hq hm => by simp at hm ⊢; omega)⟩
theorem WholeG.of_eq {w w' : World} {bg bk bw T T' : Nat} {v v' : Value} {e : Ending} (h : WholeG w bg bk bw T v e w') (hT : T = T') (hv : v = v') : WholeG w bg bk bw T' v' e w' := by subst hT; subst hv; exact h
theorem Gau.pend_ne {w : World} {bg bk bw bp T : Nat} {l : List Value} (h : Gau w bg bk bw T) (hp : Row w bp 115 l) : bg ∉ [bw, bp] := by simp; exact ⟨h.ne, h.head.ne hp (by decide)⟩

set_option maxRecDepth 100000
set_option maxHeartbeats 1600000
theorem gdo_one {w : World} {bg bk bw T : Nat} {k : Int} {x : Nat} (h : Gau w bg bk bw T) (lx : B64 x) (hr : grightB k x = true) (h1 : (stepG T (newG k x)).ph = 2) :
    Calls Try.prog 54 #[.pointer (some ⟨bg, 0, none⟩), .agg #[.int .u8 k, .float .f64 x]] w
      (WholeG w bg bk bw (wordG T (newG k x)) (.float .f64 (stepG T (newG k x)).ans)) := by
  have HK1 : Hid (OkG (newG k x)) := Lib.hid (OkG.new hr lx)
  have HK2 : Hid (OkG (stepG T (newG k x))) := Lib.hid (HK1.out.step h.ok)
  have HD1 : Hid (decide ((newG k x).ph = 2) = false) := Lib.hid rfl
  have HD2 : Hid (decide ((stepG T (newG k x)).ph = 2) = true) := Lib.hid (by rw [h1]; rfl)
  have HT := Lib.hid (wordG_lt HK1.out h.ok)
  have HR := Lib.hid hr
  have LX := Lib.hid lx
  have H := Lib.hid h
  clear h hr h1 lx
  go_enter Try.func54, Try.ntmps54
  go_wp2_with (go_at_call 11; refine (gstart_op (H.out.alloc _).head LX.out HR.out).mono ?_; rintro e w1 ⟨bp, rfl, hn, hr, hb⟩; have HB1 := Lib.hid hb; have HR1 := Lib.hid hr; have HN1 := Lib.hid hn; have HS1 := Lib.hid ((H.out.alloc _).on hb); clear hb hr hn)
  refine wp_loop_rounds 2 ?_
  rw [rounds_succ]
  go_wp2_with (first | (go_at_call 15; (with_reducible refine (gdone_op HR1.out HK1.out.ph).mono ?_); rw [HD1.out]; rintro e wx ⟨rfl, rfl⟩) | (go_at_call 14; (with_reducible refine (gstep_op HS1.out.words HS1.out.ok HR1.out HK1.out).mono ?_); rintro e w2 ⟨rfl, hS, hR, hP⟩; have HS2 := Lib.hid (HS1.out.next hP hS (HS1.out.pend_ne HR1.out) HT.out); have HR2 := Lib.hid hR; have HP2 := Lib.hid hP; clear hS hR hP))
  rw [rounds_succ]
  go_wp2_with (first | (go_at_call 15; (with_reducible refine (gdone_op HR2.out HK2.out.ph).mono ?_); rw [HD2.out]; rintro e wx ⟨rfl, rfl⟩) | (go_at_call 17; refine (ganswer_op HR2.out).mono ?_; rintro e w9 ⟨rfl, rfl⟩))
  go_ret
  exact ⟨rfl, wholeG_end (bp := bp) (((Part.refl [] w).alloc _).on HB1.out).end_ (by have := HN1.out; simp at this; omega) HP2.out HS2.out⟩
theorem gdo_two {w : World} {bg bk bw T : Nat} {k : Int} {x : Nat} (h : Gau w bg bk bw T) (lx : B64 x) (hr : grightB k x = true) (h1 : (stepG T (newG k x)).ph = 1) (h2 : (stepG (wordG T (newG k x)) (stepG T (newG k x))).ph = 2) :
    Calls Try.prog 54 #[.pointer (some ⟨bg, 0, none⟩), .agg #[.int .u8 k, .float .f64 x]] w
      (WholeG w bg bk bw (wordG (wordG T (newG k x)) (stepG T (newG k x))) (.float .f64 (stepG (wordG T (newG k x)) (stepG T (newG k x))).ans)) := by
  have HK1 : Hid (OkG (newG k x)) := Lib.hid (OkG.new hr lx)
  have HK2 : Hid (OkG (stepG T (newG k x))) := Lib.hid (HK1.out.step h.ok)
  have HT := Lib.hid (wordG_lt HK1.out h.ok)
  have HK3 : Hid (OkG (stepG (wordG T (newG k x)) (stepG T (newG k x)))) := Lib.hid (HK2.out.step HT.out)
  have HT2 := Lib.hid (wordG_lt HK2.out HT.out)
  have HD1 : Hid (decide ((newG k x).ph = 2) = false) := Lib.hid rfl
  have HD2 : Hid (decide ((stepG T (newG k x)).ph = 2) = false) := Lib.hid (by rw [h1]; rfl)
  have HD3 : Hid (decide ((stepG (wordG T (newG k x)) (stepG T (newG k x))).ph = 2) = true) := Lib.hid (by rw [h2]; rfl)
  have HR := Lib.hid hr
  have LX := Lib.hid lx
  have H := Lib.hid h
  clear h hr h1 h2 lx
  go_enter Try.func54, Try.ntmps54
  go_wp2_with (go_at_call 11; refine (gstart_op (H.out.alloc _).head LX.out HR.out).mono ?_; rintro e w1 ⟨bp, rfl, hn, hr, hb⟩; have HB1 := Lib.hid hb; have HR1 := Lib.hid hr; have HN1 := Lib.hid hn; have HS1 := Lib.hid ((H.out.alloc _).on hb); clear hb hr hn)
  refine wp_loop_rounds 3 ?_
  rw [rounds_succ]
  go_wp2_with (first | (go_at_call 15; (with_reducible refine (gdone_op HR1.out HK1.out.ph).mono ?_); rw [HD1.out]; rintro e wx ⟨rfl, rfl⟩) | (go_at_call 14; (with_reducible refine (gstep_op HS1.out.words HS1.out.ok HR1.out HK1.out).mono ?_); rintro e w2 ⟨rfl, hS, hR, hP⟩; have HS2 := Lib.hid (HS1.out.next hP hS (HS1.out.pend_ne HR1.out) HT.out); have HR2 := Lib.hid hR; have HP2 := Lib.hid hP; clear hS hR hP))
  rw [rounds_succ]
  go_wp2_with (first | (go_at_call 15; (with_reducible refine (gdone_op HR2.out HK2.out.ph).mono ?_); rw [HD2.out]; rintro e wx ⟨rfl, rfl⟩) | (go_at_call 14; (with_reducible refine (gstep_op HS2.out.words HS2.out.ok HR2.out HK2.out).mono ?_); rintro e w3 ⟨rfl, hS, hR, hP⟩; have HS3 := Lib.hid (HS2.out.next hP hS (HS2.out.pend_ne HR2.out) HT2.out); have HR3 := Lib.hid hR; have HP3 := Lib.hid hP; clear hS hR hP))
  rw [rounds_succ]
  go_wp2_with (first | (go_at_call 15; (with_reducible refine (gdone_op HR3.out HK3.out.ph).mono ?_); rw [HD3.out]; rintro e wx ⟨rfl, rfl⟩) | (go_at_call 17; refine (ganswer_op HR3.out).mono ?_; rintro e w9 ⟨rfl, rfl⟩))
  go_ret
  exact ⟨rfl, wholeG_end (bp := bp) (((Part.refl [] w).alloc _).on HB1.out).end_ (by have := HN1.out; simp at this; omega) (HP2.out.then_ HP3.out) HS3.out⟩
theorem gdo_any {w : World} {bg bk bw T : Nat} {k : Int} {x : Nat} (h : Gau w bg bk bw T) (lx : B64 x) (hr : grightB k x = true) :
    Calls Try.prog 54 #[.pointer (some ⟨bg, 0, none⟩), .agg #[.int .u8 k, .float .f64 x]] w (WholeG w bg bk bw (doneW k x T) (.float .f64 (doneW k x T))) := by
  by_cases k2 : k = 2
  · exact (gdo_one h lx hr (by simp [stepG, newG, k2])).mono fun e w' hs => hs.of_eq (by simp [wordG, newG, k2, doneW]) (by simp [stepG, newG, k2, doneW])
  · cases hq : putG k x T with
    | some p => exact (gdo_two h lx hr (by simp [stepG, newG, k2, hq]) (by simp [stepG, wordG, newG, k2, hq])).mono fun e w' hs => hs.of_eq (by simp [wordG, stepG, newG, k2, doneW, hq]) (by simp [stepG, wordG, newG, k2, doneW, hq])
    | none => exact (gdo_one h lx hr (by simp [stepG, newG, k2, hq])).mono fun e w' hs => hs.of_eq (by simp [wordG, newG, k2, doneW, hq]) (by simp [stepG, newG, k2, doneW, hq])
theorem gget_any {w : World} {bg bk bw T : Nat} (h : Gau w bg bk bw T) :
    Calls Try.prog 19 #[.pointer (some ⟨bg, 0, none⟩)] w (WholeG w bg bk bw T (.float .f64 T)) := by
  have H := Lib.hid h
  clear h
  go_enter Try.func19, Try.ntmps19
  go_wp2_with (go_at_call 54; refine (gdo_any (k := 1) (x := 0) H.out (by unfold B64; omega) (by decide)).mono ?_; rintro e w2 ⟨rfl, hS, hP⟩)
  go_ret
  exact ⟨by simp [doneW, putG], by simpa [doneW, putG] using hS, hP⟩
theorem gset_any {w : World} {bg bk bw T x : Nat} (h : Gau w bg bk bw T) (lx : B64 x) :
    Calls Try.prog 9 #[.pointer (some ⟨bg, 0, none⟩), .float .f64 x] w (WholeG w bg bk bw (GM.bitsOf x) (.float .f64 (GM.bitsOf x))) := by
  have H := Lib.hid h
  have LX := Lib.hid lx
  clear h lx
  go_enter Try.func9, Try.ntmps9
  go_wp2_with (go_at_call 54; refine (gdo_any (k := 2) (x := x) H.out LX.out (by simp [grightB])).mono ?_; rintro e w2 ⟨rfl, hS, hP⟩)
  go_ret
  exact ⟨by simp [doneW], by simpa [doneW] using hS, hP⟩
theorem gadd_any {w : World} {bg bk bw T x : Nat} (h : Gau w bg bk bw T) (lx : B64 x) :
    Calls Try.prog 48 #[.pointer (some ⟨bg, 0, none⟩), .float .f64 x] w (WholeG w bg bk bw (doneW 3 x T) (.float .f64 (doneW 3 x T))) := by
  have H := Lib.hid h
  have LX := Lib.hid lx
  clear h lx
  go_enter Try.func48, Try.ntmps48
  go_wp2_with (go_at_call 54; refine (gdo_any (k := 3) (x := x) H.out LX.out (by simp [grightB])).mono ?_; rintro e w2 ⟨rfl, hS, hP⟩)
  go_ret
  exact ⟨rfl, hS, hP⟩
theorem gmax_any {w : World} {bg bk bw T x : Nat} (h : Gau w bg bk bw T) (lx : B64 x) :
    Calls Try.prog 49 #[.pointer (some ⟨bg, 0, none⟩), .float .f64 x] w (WholeG w bg bk bw (doneW 4 x T) (.float .f64 (doneW 4 x T))) := by
  have H := Lib.hid h
  have LX := Lib.hid lx
  clear h lx
  go_enter Try.func49, Try.ntmps49
  go_wp2_with (go_at_call 54; refine (gdo_any (k := 4) (x := x) H.out LX.out (by simp [grightB])).mono ?_; rintro e w2 ⟨rfl, hS, hP⟩)
  go_ret
  exact ⟨rfl, hS, hP⟩
theorem gmin_any {w : World} {bg bk bw T x : Nat} (h : Gau w bg bk bw T) (lx : B64 x) :
    Calls Try.prog 50 #[.pointer (some ⟨bg, 0, none⟩), .float .f64 x] w (WholeG w bg bk bw (doneW 5 x T) (.float .f64 (doneW 5 x T))) := by
  have H := Lib.hid h
  have LX := Lib.hid lx
  clear h lx
  go_enter Try.func50, Try.ntmps50
  go_wp2_with (go_at_call 54; refine (gdo_any (k := 5) (x := x) H.out LX.out (by simp [grightB])).mono ?_; rintro e w2 ⟨rfl, hS, hP⟩)
  go_ret
  exact ⟨rfl, hS, hP⟩
end Go.Proofs.Ytcocegneegjcpaa
