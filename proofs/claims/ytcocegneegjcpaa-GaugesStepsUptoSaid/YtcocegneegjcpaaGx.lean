/- THE DOCUMENT's OWN STEP FOR gauges AS ONE CONTRACT over OpG. -/
import Derived.Test.YtcocegneegjcpaaGv
import Derived.Test.YtcocegneegjcpaaGg
namespace Go.Proofs.Ytcocegneegjcpaa
open Go Go.RowKit

/-- the document's record of an operation under way -/
structure BookG (o : OpG) (l e : Bool) (s : Int) (a : Nat) : Prop where
  l : l = decide (o.ph = 1)
  e : e = decide (o.ph = 2)
  s : o.ph = 1 → s = o.saw
  lt : B64 a
  ans : GM.bitsOf a = GM.bitsOf o.ans
theorem BookG.new (k : Int) (x : Nat) : BookG (newG k x) false false 0 0 := ⟨rfl, rfl, fun h => by simp [newG] at h, by unfold B64; omega, rfl⟩
def bookL (o : OpG) (l e : Bool) (s : Int) (a : Nat) : List Value := [.int .u8 o.k, .float .f64 o.x, .bool l, .int .u64 s, .bool e, .float .f64 a]
def BookedG (T : Nat) (o : OpG) (w : World) (en : Ending) (w' : World) : Prop :=
  ∃ l e s a, en = .returned (.tuple #[.int .u64 ((wordG T o : Nat) : Int), .agg (bookL (stepG T o) l e s a).toArray, didG T o]) ∧ BookG (stepG T o) l e s a ∧ Below w.heap.size w w'
theorem rstep_op {T : Nat} {o : OpG} {l e : Bool} {s : Int} {a : Nat} (ho : OkG o) (lT : B64 T) (hb : BookG o l e s a) (w : World) :
    Calls Try.prog 13 #[.int .u64 (T : Nat), .agg (bookL o l e s a).toArray] w (BookedG T o w) := by
  obtain ⟨hr, hx, h2, hf, hl, ha⟩ := ho
  obtain ⟨k, x, ph, saw, put, ans⟩ := o
  obtain ⟨rfl, rfl, bs, lt, ba⟩ := hb
  dsimp only at hr hx h2 hf hl ha bs ba
  match ph, h2 with
  | 0, _ =>
    by_cases k2 : k = 2
    · subst k2
      refine (gstep_set hx w).mono fun en w' ⟨he, hw⟩ => ⟨_, _, _, _, he, ?_, hw⟩
      exact ⟨by simp [stepG], by simp [stepG], fun h => by simp [stepG] at h, hx, by simp [stepG, GM.bits_bits]⟩
    · have e2 : (k == 2) = false := by simpa using k2
      cases hp : putG k x T with
      | some p =>
        refine (gstep_load hx lT e2 hp w).mono fun en w' ⟨he, hw⟩ => ⟨true, false, T, a, ?_, ?_, hw⟩
        · rw [he]; simp [wordG, stepG, didG, bookL, k2, hp]
        · exact ⟨by simp [stepG, k2, hp], by simp [stepG, k2, hp], fun _ => by simp [stepG, k2, hp], lt, by simp [stepG, k2, hp]; exact ba⟩
      | none =>
        refine (gstep_ends hx lT e2 hp w).mono fun en w' ⟨he, hw⟩ => ⟨false, true, T, T, ?_, ?_, hw⟩
        · rw [he]; simp [wordG, stepG, didG, bookL, k2, hp]
        · exact ⟨by simp [stepG, k2, hp], by simp [stepG, k2, hp], fun h => by simp [stepG, k2, hp] at h, lT, by simp [stepG, k2, hp]⟩
  | 1, _ =>
    obtain ⟨hp, lp, ls⟩ := hl rfl
    obtain rfl := bs rfl
    have e2 : (k == 2) = false := by
      cases h : k == 2 with
      | false => rfl
      | true =>
        have : k = 2 := by simpa using h
        subst this
        simp [putG] at hp
    by_cases hT : T = saw
    · subst hT
      refine (gstep_hit hx lT e2 hp w).mono fun en w' ⟨⟨r, lr, hq, he⟩, hw⟩ => ⟨false, true, T, r, ?_, ?_, hw⟩
      · rw [he]; simp [wordG, stepG, didG, bookL]
      · exact ⟨by simp [stepG], by simp [stepG], fun h => by simp [stepG] at h, lr, by simp [stepG]; rw [← hq, GM.bits_bits]⟩
    · have hne : (((T : Nat) : Int) == (saw : Int)) = false := by simp; omega
      refine (rgstep_miss e2 hne w).mono fun en w' ⟨he, hw⟩ => ⟨false, false, saw, a, ?_, ?_, hw⟩
      · rw [he]; simp [wordG, stepG, didG, bookL, hT]
      · exact ⟨by simp [stepG, hT], by simp [stepG, hT], fun h => by simp [stepG, hT] at h, lt, by simp [stepG, hT]; exact ba⟩
  | 2, _ =>
    refine (rgstep_over w).mono fun en w' ⟨he, hw⟩ => ⟨false, true, s, a, ?_, ?_, hw⟩
    · rw [he]; simp [wordG, stepG, didG, bookL]
    · exact ⟨by simp [stepG], by simp [stepG], fun h => by simp [stepG] at h, lt, by simp [stepG]; exact ba⟩
end Go.Proofs.Ytcocegneegjcpaa
