/- THE WALKS of package ring: Add, Sum. -/
import Derived.Test.YtjehcgeodcpcaaaKj
namespace Go.Proofs.Ytjehcgeodcpcaaa
open Go Go.RowKit

/-- a whole operation alone: the words behind it, and the operation as it has ended -/
def doN (ws : List Int) (k : Int) (q : Nat) (n : Int) : List Int × OpN := runN (muO (newN ws.length k q n)) (ws, newN ws.length k q n)
theorem doN_ends {w : World} {br bk bw : Nat} {wd : Int} {ws : List Int} (h : Rng w br bk bw wd ws) {k n : Int} {q : Nat} (hr : RightN k q n) : (doN ws k q n).2.ph = 2 :=
  runN_ends (fun e => absurd e (by simp [newN])) (OkN.new hr h.pos h.top) (h.words.cell64 h.pos) _ (Nat.le_refl _)
theorem ndo_is {w : World} {br bk bw : Nat} {wd : Int} {ws wsE : List Int} {k t n a y : Int} {q : Nat} (h : Rng w br bk bw wd ws) (ht : t ≤ 9223372036854775807) (hf : FineN wd k t n q) (h1 : (doN ws k q n).1 = wsE) (h2 : (doN ws k q n).2.ans = a) (h3 : (doN ws k q n).2.why = y) :
    Calls Try.prog 32 #[.pointer (some ⟨br, 0, none⟩), .agg #[.int .u8 k, .int .i64 t, .int .u64 n]] w (WholeN w br bk bw wd wsE (.tuple #[.int .u64 a, .int .i64 y])) := by
  subst h1 h2 h3
  exact ndo_op h ht hf rfl (doN_ends h hf.right)
set_option maxRecDepth 100000
theorem nadd_no {w : World} {br bk bw : Nat} {wd : Int} {ws : List Int} {t n v : Int} (h : Rng w br bk bw wd ws) (ht : t ≤ 9223372036854775807) (hn : U64 n) (he : checkE wd 1 t n = v) (hv : v ≠ 0) :
    Calls Try.prog 18 #[.pointer (some ⟨br, 0, none⟩), .int .i64 t, .int .u64 n] w fun e w' => e = .returned (.int .i64 v) ∧ Below w.heap.size w w' := by
  have H := Lib.hid h
  have HN := Lib.hid hn
  have HE := Lib.hid he
  have HT := Lib.hid ht
  have HV := Lib.hid hv
  clear h hn he ht hv
  go_enter Try.func18, Try.ntmps18
  go_wp2_with (go_at_call 32; refine (ndo_no H.out HT.out HN.out HE.out HV.out).mono ?_; rintro e w1 ⟨rfl, hb⟩; have HB := Lib.hid hb; clear hb)
  go_ret
  exact ⟨rfl, HB.out⟩
theorem nadd_is {w : World} {br bk bw : Nat} {wd : Int} {ws wsE : List Int} {t n y : Int} {q : Nat} (h : Rng w br bk bw wd ws) (ht : t ≤ 9223372036854775807) (hf : FineN wd 1 t n q) (h1 : (doN ws 1 q n).1 = wsE) (h3 : (doN ws 1 q n).2.why = y) :
    Calls Try.prog 18 #[.pointer (some ⟨br, 0, none⟩), .int .i64 t, .int .u64 n] w (WholeN w br bk bw wd wsE (.int .i64 y)) := by
  have H := Lib.hid h
  have HF := Lib.hid hf
  have HT := Lib.hid ht
  have H1 := Lib.hid h1
  have H3 := Lib.hid h3
  clear h hf ht h1 h3
  go_enter Try.func18, Try.ntmps18
  go_wp2_with (go_at_call 32; refine (ndo_is H.out HT.out HF.out H1.out rfl H3.out).mono ?_; rintro e w1 ⟨rfl, hR, hP⟩; have HR1 := Lib.hid hR; have HP1 := Lib.hid hP; clear hR hP)
  go_ret
  exact ⟨rfl, HR1.out, HP1.out⟩
theorem nsum_no {w : World} {br bk bw : Nat} {wd : Int} {ws : List Int} {t v : Int} (h : Rng w br bk bw wd ws) (ht : t ≤ 9223372036854775807) (he : checkE wd 2 t 0 = v) (hv : v ≠ 0) :
    Calls Try.prog 19 #[.pointer (some ⟨br, 0, none⟩), .int .i64 t] w fun e w' => e = .returned (.tuple #[.int .u64 0, .int .i64 v]) ∧ Below w.heap.size w w' := by
  have H := Lib.hid h
  have HE := Lib.hid he
  have HT := Lib.hid ht
  have HV := Lib.hid hv
  clear h he ht hv
  go_enter Try.func19, Try.ntmps19
  go_wp2_with (go_at_call 32; refine (ndo_no H.out HT.out U64.zero HE.out HV.out).mono ?_; rintro e w1 ⟨rfl, hb⟩; have HB := Lib.hid hb; clear hb)
  go_ret2
  exact ⟨rfl, HB.out⟩
theorem nsum_is {w : World} {br bk bw : Nat} {wd : Int} {ws wsE : List Int} {t a y : Int} {q : Nat} (h : Rng w br bk bw wd ws) (ht : t ≤ 9223372036854775807) (hf : FineN wd 2 t 0 q) (h1 : (doN ws 2 q 0).1 = wsE) (h2 : (doN ws 2 q 0).2.ans = a) (h3 : (doN ws 2 q 0).2.why = y) :
    Calls Try.prog 19 #[.pointer (some ⟨br, 0, none⟩), .int .i64 t] w (WholeN w br bk bw wd wsE (.tuple #[.int .u64 a, .int .i64 y])) := by
  have H := Lib.hid h
  have HF := Lib.hid hf
  have HT := Lib.hid ht
  have H1 := Lib.hid h1
  have H2 := Lib.hid h2
  have H3 := Lib.hid h3
  clear h hf ht h1 h2 h3
  go_enter Try.func19, Try.ntmps19
  go_wp2_with (go_at_call 32; refine (ndo_is H.out HT.out HF.out H1.out H2.out H3.out).mono ?_; rintro e w1 ⟨rfl, hR, hP⟩; have HR1 := Lib.hid hR; have HP1 := Lib.hid hP; clear hR hP)
  go_ret2
  exact ⟨rfl, HR1.out, HP1.out⟩
end Go.Proofs.Ytjehcgeodcpcaaa
