/- WHAT A LIST OF OPERATIONS HAS ADDED: plain mathematics. -/
import Derived.Test.YtcocegneegjcpaaSl
namespace Go.Proofs.Ytcocegneegjcpaa
open Go Go.RowKit

/-- an operation under way: its kind, worker, number; how many actions were done, what they have come to -/
structure OpS where
  k : Int
  i : Nat
  y : Int
  t : Nat
  s : Int
/-- what an operation has added to all cells so far -/
def contrib (o : OpS) : Int := if o.k = 1 then (if 0 < o.t then o.y else 0) else if o.k = 4 then -o.s else 0
def totalOf (l : List OpS) : Int := (l.map contrib).foldr (· + ·) 0
def sumI (l : List Int) : Int := l.foldr (· + ·) 0
theorem sumI_cons (a : Int) (l : List Int) : sumI (a :: l) = a + sumI l := rfl
theorem sumI_append (a b : List Int) : sumI (a ++ b) = sumI a + sumI b := by
  induction a with
  | nil => simp [sumI]
  | cons x a ih => rw [List.cons_append, sumI_cons, sumI_cons, ih]; omega
theorem sumI_set (l : List Int) (c : Nat) (v x : Int) (h : l[c]? = some x) : sumI (l.set c v) = sumI l + v - x := by
  induction l generalizing c with
  | nil => simp at h
  | cons a l ih =>
    cases c with
    | zero => simp at h; subst h; simp only [List.set_cons_zero, sumI_cons]; omega
    | succ c => simp at h; simp only [List.set_cons_succ, sumI_cons]; rw [ih c h]; omega
/-- the same, modulo 2^64 -/
def Cong (a b : Int) : Prop := (a - b) % 18446744073709551616 = 0
theorem Cong.refl (a : Int) : Cong a a := by unfold Cong; omega
theorem cong_wrap (a : Int) : Cong (IntKind.u64.wrap a) a := by unfold Cong; rw [IntKind.wrap_u64]; omega
theorem wrap_of_cong {a b : Int} (h : Cong a b) : IntKind.u64.wrap a = IntKind.u64.wrap b := by unfold Cong at h; rw [IntKind.wrap_u64, IntKind.wrap_u64]; omega
theorem sumW_eq (l : List Int) : sumW l = IntKind.u64.wrap (sumI l) := by
  have h : ∀ (l : List Int) (a : Int), l.foldl (fun a x => IntKind.u64.wrap (a + x)) (IntKind.u64.wrap a) = IntKind.u64.wrap (a + sumI l) := by
    intro l
    induction l with
    | nil => intro a; simp [sumI]
    | cons x l ih =>
      intro a
      rw [List.foldl_cons, sumI_cons]
      have e : IntKind.u64.wrap (IntKind.u64.wrap a + x) = IntKind.u64.wrap (a + x) := by rw [IntKind.wrap_u64, IntKind.wrap_u64, IntKind.wrap_u64]; omega
      rw [e, ih (a + x)]
      congr 1
      omega
  have h0 := h l 0
  have z : IntKind.u64.wrap 0 = 0 := by rw [IntKind.wrap_u64]; rfl
  rw [z] at h0
  unfold sumW
  rw [h0]
  congr 1
  omega
theorem totalOf_set (l : List OpS) (j : Nat) (o o' : OpS) (h : l[j]? = some o) : totalOf (l.set j o') = totalOf l + contrib o' - contrib o := by
  unfold totalOf
  rw [List.map_set]
  exact sumI_set (l.map contrib) j (contrib o') (contrib o) (by simp [h])
/-- a step, of whatever kind: what all cells have goes with what the operations have added -/
theorem step_cong {ws : List Int} {l : List OpS} {j c : Nat} {o : OpS} {x : Int} (hc : Cong (sumI ws) (totalOf l)) (hj : l[j]? = some o) (hx : ws[c]? = some x) (hr : RightN o.k o.i o.y) (ht : o.k = 1 → o.t = 0) :
    Cong (sumI (ws.set c (putOf o.k o.y x))) (totalOf (l.set j ⟨o.k, o.i, o.y, o.t + 1, sumOf o.k o.y o.s x⟩)) := by
  rw [sumI_set ws c _ x hx, totalOf_set l j o _ hj]
  obtain ⟨k, i, y, t, s⟩ := o
  rcases hr with hk | ⟨hk, hy⟩ | ⟨hk, _, hy⟩ | ⟨hk, _, hy⟩
  · have h0 := ht hk
    simp only at hk h0
    subst hk
    subst h0
    simp only [putOf, sumOf, contrib, if_true]
    have := cong_wrap (x + y)
    unfold Cong at *
    simp
    omega
  · simp only at hk hy
    subst hk
    simp [putOf, contrib]
    unfold Cong at *
    omega
  · simp only at hk hy
    subst hk
    simp [putOf, contrib]
    unfold Cong at *
    omega
  · simp only at hk hy
    subst hk
    simp only [putOf, sumOf, contrib]
    have := cong_wrap (s + x)
    unfold Cong at *
    simp
    omega
end Go.Proofs.Ytcocegneegjcpaa
