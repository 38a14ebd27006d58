/- THE WALKS of the document's own answer: Step in plain words; Whole. -/
import Derived.Test.YtcocegneegjcpaaTv
import Derived.Test.YtcocegneegjcpaaTw
import Derived.Test.YtcocegneegjcpaaTx
namespace Go.Proofs.Ytcocegneegjcpaa
open Go Go.RowKit

/-- the document's operation under way: what it saw last is its own -/
def undL (o : OpT) (s : Int) : List Value := [.int .u8 o.k, .int .i64 o.t, .int .i64 o.n, .bool (decide (o.ph = 1)), .int .i64 s, .bool (decide (o.ph = 2)), .bool o.ok, .int .i64 o.wait, .int .i64 o.left]
structure SawT (o : OpT) (s : Int) : Prop where
  lo : 0 ≤ s
  hi : s ≤ 3458764513820540928
  eq : o.ph = 1 → s = o.saw
/-- what the document's Step leaves -/
def RStep (w : World) (ev bu T : Int) (o : OpT) (e : Ending) (w' : World) : Prop :=
  ∃ s', e = .returned (.tuple #[.int .i64 (stepW T o), .agg (undL (stepO ev bu T o) s').toArray, didO T o]) ∧ SawT (stepO ev bu T o) s' ∧ Below w.heap.size w w'
theorem rstep_op {w : World} {ev bu T s : Int} {o : OpT} (hf : fitsB ev bu = true) (T0 : 0 ≤ T) (T1 : T ≤ 3458764513820540928) (ho : OkT ev bu o) (hs : SawT o s) (hph : o.ph < 2) :
    Calls Try.prog 44 #[.int .i64 ev, .int .i64 bu, .int .i64 T, .agg (undL o s).toArray] w (RStep w ev bu T o) := by
  obtain ⟨a, b, c, d⟩ := fits_bounds hf
  obtain ⟨D0, D1⟩ := mul_bounds (n := bu) (ev := ev) (by omega) d a b
  obtain ⟨⟨t0, t1⟩, hk⟩ := ho.right
  obtain ⟨k, t, n, ph, saw, put, ok, wait, left⟩ := o
  have hfresh := ho.fresh hph
  have hfit := ho.fit
  have htake := ho.take
  have hse := hs.eq
  dsimp only at t0 t1 hk hfresh hfit htake hph hse
  obtain ⟨rfl, rfl, rfl⟩ := hfresh
  have s0 := hs.lo
  have s1 := hs.hi
  match ph, hph with
  | 0, _ =>
    rcases hk with ⟨rfl, n0, n1⟩ | ⟨rfl, rfl⟩
    · obtain ⟨p0, p1⟩ := mul_bounds (n := n) (ev := ev) (by omega) n1 a b
      by_cases hg : max T t + n * ev ≤ t + bu * ev
      · exact (rstep_go w hf T0 T1 s0 s1 t0 t1 rfl rfl rfl p0 p1 rfl D0 D1 hg).mono fun e w' ⟨he, hb⟩ => ⟨T, by rw [he]; simp [stepW, stepO, hg, undL, didO], ⟨T0, T1, by simp [stepO, hg]⟩, hb⟩
      · by_cases hn : bu < n
        · exact (rstep_never w hf T0 T1 s0 s1 t0 t1 rfl rfl rfl p0 p1 rfl D0 D1 (by omega) hn).mono fun e w' ⟨he, hb⟩ => ⟨T, by rw [he]; simp [stepW, stepO, hg, hn, undL, didO], ⟨T0, T1, by simp [stepO, hg]⟩, hb⟩
        · exact (rstep_stop w hf T0 T1 s0 s1 t0 t1 rfl rfl rfl p0 p1 rfl D0 D1 (by omega) (by omega)).mono fun e w' ⟨he, hb⟩ => ⟨T, by rw [he]; simp [stepW, stepO, hg, hn, undL, didO]; omega, ⟨T0, T1, by simp [stepO, hg]⟩, hb⟩
    · exact (rstep_peek (n := 0) (P := 0) (D := bu * ev) w hf T0 T1 s0 s1 t0 t1 rfl rfl (by simp) (by omega) (by omega) rfl D0 D1).mono fun e w' ⟨he, hb⟩ => ⟨T, by rw [he]; simp [stepW, stepO, undL, didO], ⟨T0, T1, by simp [stepO]⟩, hb⟩
  | 1, _ =>
    obtain rfl := htake rfl
    obtain ⟨f1, f2⟩ := hfit rfl
    obtain rfl := hse rfl
    obtain ⟨n0, n1⟩ : 1 ≤ n ∧ n ≤ 1048576 := by omega
    obtain ⟨p0, p1⟩ := mul_bounds (n := n) (ev := ev) (by omega) n1 a b
    by_cases e : T = s
    · exact (rstep_hit w hf T0 T1 s0 s1 t0 t1 rfl rfl rfl p0 p1 rfl D0 D1 e).mono fun e' w' ⟨he, hb⟩ => ⟨s, by rw [he]; simp [stepW, stepO, undL, didO, e, f1], ⟨s0, s1, by simp [stepO, e]⟩, hb⟩
    · exact (rstep_miss w hf T0 T1 s0 s1 t0 t1 rfl rfl rfl p0 p1 rfl D0 D1 e).mono fun e' w' ⟨he, hb⟩ => ⟨s, by rw [he]; simp [stepW, stepO, undL, didO, e], ⟨s0, s1, by simp [stepO, e]⟩, hb⟩
end Go.Proofs.Ytcocegneegjcpaa
