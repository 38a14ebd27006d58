/- A WHOLE Take OR Peek BY WHAT IT COMES TO; a bucket of the call's own. -/
import Derived.Test.YtcocegneegjcpaaTm
import Derived.Test.YtcocegneegjcpaaEy
namespace Go.Proofs.Ytcocegneegjcpaa
open Go Go.RowKit

/-- any Take: the word behind it, its answer -/
def afterT (ev bu T t n : Int) : Int := if trightB 1 t n then takeW ev bu T t n else T
def tookOk (ev bu T t n : Int) : Bool := trightB 1 t n && takeB ev bu T t n
def tookWait (ev bu T t n : Int) : Int := if trightB 1 t n then waitT ev bu T t n else 0
def whyT (k t n : Int) : Int := if trightB k t n then 0 else 2
theorem ttake_all {w : World} {bt bk bw : Nat} {ev bu T t n : Int} (h : Buck w bt bk bw ev bu T) :
    Calls Try.prog 73 #[.pointer (some ⟨bt, 0, none⟩), .int .i64 t, .int .i64 n] w
      (WholeT w bt bk bw ev bu (afterT ev bu T t n) (.tuple #[.agg #[.bool (tookOk ev bu T t n), .int .i64 (tookWait ev bu T t n), .int .i64 0], .int .i64 (whyT 1 t n)])) := by
  cases hr : trightB 1 t n with
  | true => exact (ttake_yes h (rightT_iff.1 hr)).mono fun e w' hs => hs.of_eq (by simp [afterT, hr]) (by simp [tookOk, tookWait, whyT, hr])
  | false => exact (ttake_no hr).mono fun e w' ⟨he, hb⟩ => ⟨by rw [he]; simp [zeroV, tookOk, tookWait, whyT, hr], by simpa [afterT, hr] using h.on hb, Part.of_below hb (Nat.le_refl _) _⟩
theorem ttake_hit {w : World} {bt bk bw : Nat} {ev bu T t n X : Int} (h : Buck w bt bk bw ev bu T) (hr : RightT 1 t n) (hb : max T t + n * ev ≤ t + bu * ev) (hX : max T t + n * ev = X) :
    Calls Try.prog 73 #[.pointer (some ⟨bt, 0, none⟩), .int .i64 t, .int .i64 n] w
      (WholeT w bt bk bw ev bu X (.tuple #[.agg #[.bool true, .int .i64 0, .int .i64 0], .int .i64 0])) := by
  subst hX
  exact (ttake_yes h hr).mono fun e w' hs => hs.of_eq (by simp [takeW, takeB, hb]) (by simp [takeB, waitT, hb])
theorem ttake_miss {w : World} {bt bk bw : Nat} {ev bu T t n S : Int} (h : Buck w bt bk bw ev bu T) (hr : RightT 1 t n) (hb' : t + bu * ev < max T t + n * ev) (hS : stopV ev bu T t n = S) :
    Calls Try.prog 73 #[.pointer (some ⟨bt, 0, none⟩), .int .i64 t, .int .i64 n] w
      (WholeT w bt bk bw ev bu T (.tuple #[.agg #[.bool false, .int .i64 S, .int .i64 0], .int .i64 0])) :=
  have hb : ¬ max T t + n * ev ≤ t + bu * ev := by omega
  (ttake_yes h hr).mono fun e w' hs => hs.of_eq (by simp [takeW, takeB, hb]) (by simp [takeB, waitT, hb, hS])
theorem tpeek_at {w : World} {bt bk bw : Nat} {ev bu T t L : Int} (h : Buck w bt bk bw ev bu T) (hr : RightT 2 t 0) (hL : roomV ev bu T t / ev = L) :
    Calls Try.prog 74 #[.pointer (some ⟨bt, 0, none⟩), .int .i64 t] w
      (WholeT w bt bk bw ev bu T (.tuple #[.int .i64 L, .int .i64 0])) := by
  subst hL
  exact tpeek_yes h hr

/-- a bucket that the call W has made -/
structure OneT (W : World) (bt bk bw : Nat) (ev bu T : Int) (wr : World) : Prop where
  buck : Buck wr bt bk bw ev bu T
  lo : W.heap.size ≤ bw
  low : Below W.heap.size W wr
section
variable {W wr w1 : World} {bt bk bw : Nat} {ev bu T T' : Int}
theorem OneT.next (h : OneT W bt bk bw ev bu T wr) (hB : Buck w1 bt bk bw ev bu T') (hP : Part [bw] wr w1) : OneT W bt bk bw ev bu T' w1 :=
  ⟨hB, h.lo, h.low.trans (hP.below h.low.size (by simpa using h.lo))⟩
theorem OneT.on (h : OneT W bt bk bw ev bu T wr) (hb : Below wr.heap.size wr w1) : OneT W bt bk bw ev bu T w1 := ⟨h.buck.on hb, h.lo, h.low.trans (hb.mono h.low.size)⟩
theorem OneT.alloc (h : OneT W bt bk bw ev bu T wr) (o : Obj) : OneT W bt bk bw ev bu T (wr.alloc o) := ⟨h.buck.alloc o, h.lo, h.low.alloc h.low.size o⟩
theorem OneT.drewN (h : OneT W bt bk bw ev bu T wr) (n : Nat) : OneT W bt bk bw ev bu T (wr.drewN n) := ⟨h.buck.drewN n, h.lo, ⟨h.low.os, h.low.tape, h.low.output, h.low.size, h.low.block⟩⟩
theorem OneT.drew (h : OneT W bt bk bw ev bu T wr) : OneT W bt bk bw ev bu T wr.drew := ⟨h.buck.drew, h.lo, h.low.drew⟩
theorem OneT.start {w0 : World} (hb0 : Below W.heap.size W w0) (hB : Buck w1 bt bk bw ev bu 0) (hlo : w0.heap.size ≤ bw) (hb1 : Below w0.heap.size w0 w1) : OneT W bt bk bw ev bu 0 w1 :=
  ⟨hB, Nat.le_trans hb0.size hlo, hb0.trans (hb1.mono hb0.size)⟩
end

/-- the arithmetic of rooms and waits -/
theorem left_bounds {ev bu T t : Int} (h : fitsB ev bu = true) : 0 ≤ roomV ev bu T t / ev ∧ roomV ev bu T t / ev ≤ bu := by
  obtain ⟨a, b, c, d⟩ := fits_bounds h
  have h0 : 0 ≤ roomV ev bu T t := by unfold roomV; omega
  have h1 : roomV ev bu T t ≤ bu * ev := by
    have := Int.mul_nonneg (show 0 ≤ bu by omega) (show 0 ≤ ev by omega)
    unfold roomV; omega
  refine ⟨Int.ediv_nonneg h0 (by omega), ?_⟩
  have := Int.ediv_le_ediv (show 0 < ev by omega) h1
  rwa [Int.mul_ediv_cancel _ (by omega)] at this
theorem fits_left {ev bu T t n : Int} (h : fitsB ev bu = true) (hn : 1 ≤ n) : max T t + n * ev ≤ t + bu * ev ↔ n ≤ roomV ev bu T t / ev := by
  obtain ⟨a, b, c, d⟩ := fits_bounds h
  have h1 : ev ≤ n * ev := by
    have := Int.mul_le_mul_of_nonneg_right hn (show 0 ≤ ev by omega)
    omega
  rw [Int.le_ediv_iff_mul_le (by omega)]
  unfold roomV
  omega
theorem rest_left {ev bu T t n : Int} (h : fitsB ev bu = true) (hn : 1 ≤ n) (hg : max T t + n * ev ≤ t + bu * ev) : roomV ev bu (max T t + n * ev) t / ev = roomV ev bu T t / ev - n := by
  obtain ⟨a, b, c, d⟩ := fits_bounds h
  have h1 : ev ≤ n * ev := by
    have := Int.mul_le_mul_of_nonneg_right hn (show 0 ≤ ev by omega)
    omega
  have e : roomV ev bu (max T t + n * ev) t = roomV ev bu T t + (-n) * ev := by
    rw [Int.neg_mul]
    unfold roomV
    omega
  rw [e, Int.add_mul_ediv_right _ _ (by omega)]
  omega
/-- who is told to wait, and has not asked for too many -/
theorem wait_facts {ev bu T t n : Int} (h : fitsB ev bu = true) (hn : n ≤ bu) (hg : ¬ max T t + n * ev ≤ t + bu * ev) :
    stopV ev bu T t n = T + n * ev - (t + bu * ev) ∧ 1 ≤ T + n * ev - (t + bu * ev) ∧ t + (T + n * ev - (t + bu * ev)) ≤ T := by
  obtain ⟨a, b, c, d⟩ := fits_bounds h
  have h1 : n * ev ≤ bu * ev := Int.mul_le_mul_of_nonneg_right hn (show 0 ≤ ev by omega)
  unfold stopV
  rw [if_neg (by omega)]
  omega
end Go.Proofs.Ytcocegneegjcpaa
