/- THE WALK of the law 'TokensFree'. -/
import Derived.Test.YtcocegneegjcpaaVb
namespace Go.Proofs.Ytcocegneegjcpaa
open Go Go.RowKit

/-- what a step leaves, the state and the word said outright -/
theorem tstep_is {w : World} {bt bk bw bp : Nat} {ev bu T T' : Int} {o o' : OpT} {did : Value} {last : Bool} (h : Buck w bt bk bw ev bu T) (hp : Row w bp 140 (opTL bt o)) (ho : OkT ev bu o) (hT : stepW T o = T') (ho' : stepO ev bu T o = o') (hd : didO T o = did) (hl : decide (o'.ph = 2) = last) :
    Calls Try.prog 43 #[.pointer (some ⟨bp, 0, none⟩)] w (StepsT w bt bk bw bp ev bu T' o' (.tuple #[did, .bool last])) := by
  subst hT
  subst ho'
  subst hd
  subst hl
  exact tstep_op h hp ho
theorem tdone_at {w : World} {bp bt : Nat} {o : OpT} {d : Bool} (h : Row w bp 140 (opTL bt o)) (h2 : o.ph ≤ 2) (hd : decide (o.ph = 2) = d) :
    Calls Try.prog 45 #[.pointer (some ⟨bp, 0, none⟩)] w fun e w' => e = .returned (.bool d) ∧ w = w' := by
  subst hd
  exact tdone_op h h2

/-- so many swaps have been done; how many had been when an operation looked -/
structure Swaps (bs : List Nat) (s : Nat) (T : Int) (os : List OpT) (ld : List Nat) : Prop where
  len : ld.length = bs.length
  inv : ∀ (q : Nat) (o : OpT) (x : Nat), os[q]? = some o → ld[q]? = some x → x ≤ s ∧ (o.ph = 1 → x = s → o.saw = T)
/-- the operations, and the slice of what they saw -/
structure FreeAt (W : World) (bt bk bw : Nat) (ev bu T : Int) (os : List OpT) (bs : List Nat) (vp : Value) (gl : Nat) (s : Nat) (ld : List Nat) (wr : World) : Prop where
  many : ManyT W bt bk bw ev bu T os bs vp wr
  row : Row wr gl 3 (ints ld)
  lo : W.heap.size ≤ gl
  sw : Swaps bs s T os ld
section
variable {W wr w1 : World} {bt bk bw gl : Nat} {ev bu T : Int} {os : List OpT} {bs ld : List Nat} {vp : Value} {s q : Nat}
theorem FreeAt.on (h : FreeAt W bt bk bw ev bu T os bs vp gl s ld wr) (hb : Below wr.heap.size wr w1) : FreeAt W bt bk bw ev bu T os bs vp gl s ld w1 := ⟨h.many.on hb, h.row.below hb h.row.lt, h.lo, h.sw⟩
theorem FreeAt.alloc (h : FreeAt W bt bk bw ev bu T os bs vp gl s ld wr) (o : Obj) : FreeAt W bt bk bw ev bu T os bs vp gl s ld (wr.alloc o) := h.on ((Below.refl _ _).alloc (Nat.le_refl _) o)
/-- behind a step -/
theorem FreeAt.step {b : Nat} {o o' : OpT} {T' : Int} {s' : Nat} {v : Value} {e : Ending} (h : FreeAt W bt bk bw ev bu T os bs vp gl s ld wr) (ho : os[q]? = some o) (hb : bs[q]? = some b) (hs : StepsT wr bt bk bw b ev bu T' o' v e w1) (hok : OkT ev bu o') (hsw : Swaps bs s' T' (os.set q o') ld) :
    FreeAt W bt bk bw ev bu T' (os.set q o') bs vp gl s' ld w1 := by
  obtain ⟨_, hB, hR, hP⟩ := hs
  have hrow := h.many.pends.row q o b ho hb
  exact ⟨h.many.step hb hB hR hP hok, h.row.part hP (by simp; exact ⟨h.row.ne h.many.one.buck.words.row (by decide), h.row.ne hrow (by decide)⟩), h.lo, hsw⟩
theorem Swaps.start {ops : List (Int × Int × Int)} {n : Nat} {bs : List Nat} {T : Int} (hn : n = bs.length) : Swaps bs 0 T (pickT ops) (List.replicate n 0) := by
  refine ⟨by simp [hn], fun q o x ho hx => ⟨by rw [List.getElem?_replicate] at hx; split at hx <;> simp at hx; omega, fun hp _ => ?_⟩⟩
  have hm := List.mem_of_getElem? ho
  unfold pickT at hm
  rw [List.mem_filterMap] at hm
  obtain ⟨op, _, h⟩ := hm
  split at h
  · cases h
    simp [newO] at hp
  · cases h
/-- what is written down -/
theorem FreeAt.write (h : FreeAt W bt bk bw ev bu T os bs vp gl s ld wr) (x : Nat) (hsw : Swaps bs s T os (ld.set q x)) : FreeAt W bt bk bw ev bu T os bs vp gl s (ld.set q x) (wr.setCell ⟨gl, q, none⟩ (.int .i64 (x : Int))) :=
  ⟨h.many.off h.row h.lo (Part.set (Part.refl _ _) (by simp) _) (by decide) (by decide) (by decide) (by decide) (by decide), by rw [← ints_set]; exact h.row.set q _, h.lo, hsw⟩
end
theorem looked_saw {ev bu T : Int} {o : OpT} (hph : o.ph = 0) (hp : (stepO ev bu T o).ph = 1) : (stepO ev bu T o).saw = T := by
  unfold stepO at hp ⊢
  rw [if_pos hph] at hp ⊢
  split at hp
  · rename_i hk
    rw [if_pos hk]
    split at hp
    · rename_i hg
      rw [if_pos hg]
    · simp at hp
  · simp at hp
/-- it looked -/
theorem Swaps.looked0 {bs ld : List Nat} {s q : Nat} {ev bu T : Int} {os : List OpT} {o : OpT} (h : Swaps bs s T os ld) (ho : os[q]? = some o) (hph : o.ph = 0) : Swaps bs s T (os.set q (stepO ev bu T o)) ld := by
  refine ⟨h.len, fun p x y hx hy => ?_⟩
  by_cases e : p = q
  · subst e
    rw [List.getElem?_set_self (lt_of_get ho)] at hx
    cases hx
    exact ⟨(h.inv p o y ho hy).1, fun hp _ => looked_saw hph hp⟩
  · rw [List.getElem?_set_ne (fun e' => e e'.symm)] at hx
    exact h.inv p x y hx hy
/-- and it is written down when -/
theorem Swaps.looked {bs ld : List Nat} {s q : Nat} {ev bu T : Int} {os : List OpT} {o : OpT} (h : Swaps bs s T os ld) (ho : os[q]? = some o) (hph : o.ph = 0) : Swaps bs s T (os.set q (stepO ev bu T o)) (ld.set q s) := by
  have h0 := h.looked0 (ev := ev) (bu := bu) ho hph
  refine ⟨by rw [List.length_set]; exact h.len, fun p x y hx hy => ?_⟩
  by_cases e : p = q
  · subst e
    have hl2 : p < ld.length := by have := lt_of_get hy; rwa [List.length_set] at this
    rw [List.getElem?_set_self hl2] at hy
    cases hy
    rw [List.getElem?_set_self (lt_of_get ho)] at hx
    cases hx
    exact ⟨Nat.le_refl _, fun hp _ => looked_saw hph hp⟩
  · rw [List.getElem?_set_ne (fun e' => e e'.symm)] at hy
    exact h0.inv p x y hx hy
theorem Swaps.hit {bs ld : List Nat} {s q : Nat} {T T' : Int} {os : List OpT} {o o' : OpT} (h : Swaps bs s T os ld) (ho : os[q]? = some o) : Swaps bs (s + 1) T' (os.set q o') ld := by
  refine ⟨h.len, fun p x y hx hy => ?_⟩
  have hle : y ≤ s := by
    by_cases e : p = q
    · subst e
      exact (h.inv p o y ho hy).1
    · rw [List.getElem?_set_ne (fun e' => e e'.symm)] at hx
      exact (h.inv p x y hx hy).1
  exact ⟨by omega, fun _ h => by omega⟩
theorem Swaps.miss {bs ld : List Nat} {s q : Nat} {T : Int} {os : List OpT} {o o' : OpT} (h : Swaps bs s T os ld) (ho : os[q]? = some o) (hph : o'.ph ≠ 1) : Swaps bs s T (os.set q o') ld := by
  refine ⟨h.len, fun p x y hx hy => ?_⟩
  by_cases e : p = q
  · subst e
    rw [List.getElem?_set_self (lt_of_get ho)] at hx
    cases hx
    exact ⟨(h.inv p o y ho hy).1, fun hp _ => absurd hp hph⟩
  · rw [List.getElem?_set_ne (fun e' => e e'.symm)] at hx
    exact h.inv p x y hx hy

set_option maxRecDepth 100000
end Go.Proofs.Ytcocegneegjcpaa
