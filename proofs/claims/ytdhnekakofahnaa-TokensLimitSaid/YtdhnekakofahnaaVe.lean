/- THE WALK of the law 'TokensLimit'. -/
import Derived.Test.YtdhnekakofahnaaVd
import Derived.Deep.RegionHeld3
import Derived.Deep.AppendLies
namespace Go.Proofs.Ytdhnekakofahnaa
open Go Go.RowKit

/-- the cells of a list of operations -/
def topCells (os : List OpT) : List Value := os.flatMap fun o => [.int .u8 o.k, .int .i64 o.t, .int .i64 o.n]
theorem topCells_snoc (os : List OpT) (o : OpT) : topCells os ++ [.int .u8 o.k, .int .i64 o.t, .int .i64 o.n] = topCells (os ++ [o]) := by simp [topCells]
theorem topCells_get {os : List OpT} : ∀ {q : Nat} {o : OpT}, os[q]? = some o → (topCells os)[q * 3 + 1]? = some (.int .i64 o.t) ∧ (topCells os)[q * 3 + 2]? = some (.int .i64 o.n) := by
  induction os with
  | nil => intro q o h; simp at h
  | cons a os ih =>
    intro q o h
    have e : topCells (a :: os) = [.int .u8 a.k, .int .i64 a.t, .int .i64 a.n] ++ topCells os := rfl
    rw [e]
    cases q with
    | zero => simp at h; subst h; simp
    | succ q =>
      simp at h
      obtain ⟨h1, h2⟩ := ih h
      rw [List.getElem?_append_right (by simp; omega), List.getElem?_append_right (by simp; omega)]
      have e1 : (q + 1) * 3 + 1 - [Value.int .u8 a.k, .int .i64 a.t, .int .i64 a.n].length = q * 3 + 1 := by simp; omega
      have e2 : (q + 1) * 3 + 2 - [Value.int .u8 a.k, .int .i64 a.t, .int .i64 a.n].length = q * 3 + 2 := by simp; omega
      rw [e1, e2]
      exact ⟨h1, h2⟩
theorem topCells_set {os : List OpT} {o' : OpT} : ∀ {q : Nat} {o : OpT}, os[q]? = some o → o'.k = o.k → o'.t = o.t → o'.n = o.n → topCells (os.set q o') = topCells os := by
  induction os with
  | nil => intro q o h; simp at h
  | cons a os ih =>
    intro q o h hk ht hn
    cases q with
    | zero => simp at h; subst h; simp [topCells, hk, ht, hn]
    | succ q =>
      simp at h
      have := ih h hk ht hn
      simp only [List.set_cons_succ]
      unfold topCells at this ⊢
      simp only [List.flatMap_cons, this]
theorem stepO_same (ev bu T : Int) (o : OpT) : (stepO ev bu T o).k = o.k ∧ (stepO ev bu T o).t = o.t ∧ (stepO ev bu T o).n = o.n := by
  unfold stepO
  split
  · split
    · split <;> exact ⟨rfl, rfl, rfl⟩
    · exact ⟨rfl, rfl, rfl⟩
  · split
    · split <;> exact ⟨rfl, rfl, rfl⟩
    · exact ⟨rfl, rfl, rfl⟩
/-- how many have ended -/
def overs (os : List OpT) : Nat := os.countP fun o => o.ph == 2
theorem overs_le (os : List OpT) : overs os ≤ os.length := List.countP_le_length
theorem overs_set {os : List OpT} {o' : OpT} : ∀ {q : Nat} {o : OpT}, os[q]? = some o → overs (os.set q o') + (if o.ph = 2 then 1 else 0) = overs os + (if o'.ph = 2 then 1 else 0) := by
  induction os with
  | nil => intro q o h; simp at h
  | cons a os ih =>
    intro q o h
    cases q with
    | zero => simp at h; subst h; simp [overs, List.countP_cons]; omega
    | succ q =>
      simp at h
      have := ih h
      unfold overs at this ⊢
      simp only [List.set_cons_succ, List.countP_cons]
      omega
/-- the cells of what was given -/
def givenCells (d : List (Int × Int × Int)) : List Value := d.flatMap fun x => [.int .i64 x.2.1, .int .i64 x.2.2]
theorem givenCells_snoc (d : List (Int × Int × Int)) (x : Int × Int × Int) : givenCells d ++ [.int .i64 x.2.1, .int .i64 x.2.2] = givenCells (d ++ [x]) := by simp [givenCells]
theorem givenCells_get {d : List (Int × Int × Int)} : ∀ {q : Nat} {x : Int × Int × Int}, d[q]? = some x → (givenCells d)[q * 2]? = some (.int .i64 x.2.1) ∧ (givenCells d)[q * 2 + 1]? = some (.int .i64 x.2.2) := by
  induction d with
  | nil => intro q o h; simp at h
  | cons a d ih =>
    intro q x h
    have e : givenCells (a :: d) = [.int .i64 a.2.1, .int .i64 a.2.2] ++ givenCells d := rfl
    rw [e]
    cases q with
    | zero => simp at h; subst h; simp
    | succ q =>
      simp at h
      obtain ⟨h1, h2⟩ := ih h
      rw [List.getElem?_append_right (by simp; omega), List.getElem?_append_right (by simp; omega)]
      have e1 : (q + 1) * 2 - [Value.int .i64 a.2.1, .int .i64 a.2.2].length = q * 2 := by simp; omega
      have e2 : (q + 1) * 2 + 1 - [Value.int .i64 a.2.1, .int .i64 a.2.2].length = q * 2 + 1 := by simp; omega
      rw [e1, e2]
      exact ⟨h1, h2⟩
theorem givenCells_length (d : List (Int × Int × Int)) : (givenCells d).length = d.length * 2 := by
  induction d with
  | nil => rfl
  | cons a d ih => simp [givenCells] at ih ⊢; omega
theorem three_nums (k t n : Int) : ∀ u ∈ [Value.int .u8 k, .int .i64 t, .int .i64 n], u.oneCell' = true := by
  intro u hu
  simp at hu
  rcases hu with rfl | rfl | rfl <;> rfl
theorem two_nums (t n : Int) : ∀ u ∈ [Value.int .i64 t, .int .i64 n], u.oneCell' = true := by
  intro u hu
  simp at hu
  rcases hu with rfl | rfl <;> rfl
theorem infoG : (Try.prog.info? 112).map (fun i => (i.zero, i.size, i.bytes)) = some (some (.agg #[.int .i64 0, .int .i64 0]), 2, 16) := by kernel_rfl

/-- operations under way, and what they are -/
structure KindsT (W : World) (bt bk bw : Nat) (ev bu T : Int) (os : List OpT) (bs : List Nat) (vp vk : Value) (wr : World) : Prop where
  many : ManyT W bt bk bw ev bu T os bs vp wr
  ks : wr.ownsRow W.heap.size 93 3 vk bs.length (topCells os)
section
variable {W wr w1 w5 w6 w7 : World} {bt bk bw : Nat} {ev bu T T' : Int} {os : List OpT} {bs : List Nat} {vp vk vp' vk' : Value}
theorem KindsT.on (h : KindsT W bt bk bw ev bu T os bs vp vk wr) (hb : Below wr.heap.size wr w1) : KindsT W bt bk bw ev bu T os bs vp vk w1 := ⟨h.many.on hb, own_part h.ks (Part.of_below hb (Nat.le_refl _) []) (by simp)⟩
theorem KindsT.grow {k t n : Int} {bp : Nat} {ob ob' : Obj} (h : KindsT W bt bk bw ev bu T os bs vp vk wr) (hb5 : Below wr.heap.size wr w5) (hr5 : Row w5 bp 148 (opTL bt (newO k t n))) (hn : wr.heap.size ≤ bp) (ho : RightT k t n)
    (h6 : w6.ownsRow W.heap.size 88 1 vp' (bs.length + 1) (ptrs bs ++ [.pointer (some ⟨bp, 0, none⟩)])) (hg6 : (w5.alloc ob).grownBy w6 vp.ownBlock)
    (h7 : w7.ownsRow W.heap.size 93 3 vk' (bs.length + 1) (topCells os ++ [.int .u8 k, .int .i64 t, .int .i64 n])) (hg7 : (w6.alloc ob').grownBy w7 vk.ownBlock) :
    KindsT W bt bk bw ev bu T (os ++ [newO k t n]) (bs ++ [bp]) vp' vk' w7 := by
  have h5 := (h.on hb5)
  have hm6 := h.many.grow hb5 hr5 hn (OkT.new ho) h6 hg6
  have ks5 : (w5.alloc ob).ownsRow W.heap.size 93 3 vk bs.length (topCells os) := h5.ks.alloc ob
  have ps5 := (h5.many.alloc ob).ps
  have ks6 : w6.ownsRow W.heap.size 93 3 vk bs.length (topCells os) := ks5.kept hg6 (own_apart ks5 ps5 (by decide))
  refine ⟨(hm6.alloc ob').grown (ks6.alloc ob') (Nat.le_refl _) hg7 (by decide) (by decide) (by decide) (by decide) (by decide), ?_⟩
  rw [List.length_append, List.length_singleton, ← topCells_snoc]
  exact h7
/-- and what was given -/
structure GivenT (W : World) (bt bk bw : Nat) (ev bu T : Int) (os : List OpT) (bs : List Nat) (vp vk vd : Value) (d : List (Int × Int × Int)) (wr : World) : Prop where
  kinds : KindsT W bt bk bw ev bu T os bs vp vk wr
  ds : wr.ownsRow W.heap.size 112 2 vd d.length (givenCells d)
  chain : ChainT ev bu d T
  few : d.length ≤ overs os
theorem GivenT.on {vd : Value} {d : List (Int × Int × Int)} (h : GivenT W bt bk bw ev bu T os bs vp vk vd d wr) (hb : Below wr.heap.size wr w1) : GivenT W bt bk bw ev bu T os bs vp vk vd d w1 := ⟨h.kinds.on hb, own_part h.ds (Part.of_below hb (Nat.le_refl _) []) (by simp), h.chain, h.few⟩
theorem GivenT.alloc {vd : Value} {d : List (Int × Int × Int)} (h : GivenT W bt bk bw ev bu T os bs vp vk vd d wr) (o : Obj) : GivenT W bt bk bw ev bu T os bs vp vk vd d (wr.alloc o) := h.on ((Below.refl _ _).alloc (Nat.le_refl _) o)
theorem GivenT.drew {vd : Value} {d : List (Int × Int × Int)} (h : GivenT W bt bk bw ev bu T os bs vp vk vd d wr) : GivenT W bt bk bw ev bu T os bs vp vk vd d wr.drew := h.on (Below.refl _ _).drew
/-- behind a step by which nothing was given -/
theorem GivenT.step {q b : Nat} {vd : Value} {d : List (Int × Int × Int)} {o : OpT} {v : Value} {e : Ending} (h : GivenT W bt bk bw ev bu T os bs vp vk vd d wr) (ho : os[q]? = some o) (hb : bs[q]? = some b) (hok : OkT ev bu o) (hs : StepsT wr bt bk bw b ev bu T' (stepO ev bu T o) v e w1) (hph : o.ph ≠ 2)
    {dd : List (Int × Int × Int)} (hfew : dd.length ≤ d.length + (if (stepO ev bu T o).ph = 2 then 1 else 0)) :
    KindsT W bt bk bw ev bu T' (os.set q (stepO ev bu T o)) bs vp vk w1 ∧ w1.ownsRow W.heap.size 112 2 vd d.length (givenCells d) ∧ dd.length ≤ overs (os.set q (stepO ev bu T o)) := by
  obtain ⟨_, hB, hR, hP⟩ := hs
  have hrow := h.kinds.many.pends.row q o b ho hb
  obtain ⟨s1, s2, s3⟩ := stepO_same ev bu T o
  have hv := overs_set (o' := stepO ev bu T o) ho
  rw [if_neg hph] at hv
  have hf := h.few
  refine ⟨⟨h.kinds.many.step hb hB hR hP hok.step, ?_⟩, own_part h.ds hP (fun r hr => by simp; exact ⟨own_off h.ds h.kinds.many.one.buck.words.row (by decide) r hr, own_off h.ds hrow (by decide) r hr⟩), by omega⟩
  rw [topCells_set ho s1 s2 s3]
  exact own_part h.kinds.ks hP (fun r hr => by simp; exact ⟨own_off h.kinds.ks h.kinds.many.one.buck.words.row (by decide) r hr, own_off h.kinds.ks hrow (by decide) r hr⟩)
end
end Go.Proofs.Ytdhnekakofahnaa
