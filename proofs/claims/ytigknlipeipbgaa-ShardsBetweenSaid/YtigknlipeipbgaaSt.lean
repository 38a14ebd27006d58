/- SUMS AMONG ADDS: plain words of what ShardsBetween keeps. -/
import Derived.Test.YtigknlipeipbgaaSs
namespace Go.Proofs.Ytigknlipeipbgaa
open Go Go.RowKit

theorem sum_split (l : List Int) (t : Nat) : sumI (l.take t) + sumI (l.drop t) = sumI l := by rw [← sumI_append, List.take_append_drop]
theorem sum_take {l : List Int} {t : Nat} {x : Int} (h : l[t]? = some x) : sumI (l.take (t + 1)) = sumI (l.take t) + x := by
  rw [List.take_add_one, h, sumI_append]
  simp [sumI]
theorem sum_nn {l : List Int} (h : ∀ x, x ∈ l → 0 ≤ x) : 0 ≤ sumI l := by
  induction l with
  | nil => simp [sumI]
  | cons a l ih =>
    rw [sumI_cons]
    have h1 := h a (by simp)
    have h2 := ih (fun x hx => h x (by simp [hx]))
    omega
theorem nn_take {l : List Int} (h : ∀ x, x ∈ l → 0 ≤ x) (t : Nat) : 0 ≤ sumI (l.take t) := sum_nn fun x hx => h x (List.mem_of_mem_take hx)
theorem nn_drop {l : List Int} (h : ∀ x, x ∈ l → 0 ≤ x) (t : Nat) : 0 ≤ sumI (l.drop t) := sum_nn fun x hx => h x (List.mem_of_mem_drop hx)
theorem sum_mono (l : List Int) (c : Nat) (v : Int) (h : ∀ x, l[c]? = some x → x ≤ v) : sumI l ≤ sumI (l.set c v) := by
  by_cases hc : c < l.length
  · have hx := List.getElem?_eq_getElem hc
    have := h _ hx
    rw [sumI_set l c v _ hx]
    omega
  · rw [List.set_eq_of_length_le (by omega)]
    exact Int.le_refl _
theorem take_mono (l : List Int) (c t : Nat) (v : Int) (h : ∀ x, l[c]? = some x → x ≤ v) : sumI (l.take t) ≤ sumI ((l.set c v).take t) := by
  rw [List.take_set]
  refine sum_mono _ c v fun x hx => ?_
  rw [List.getElem?_take] at hx
  split at hx
  · exact h x hx
  · cases hx
theorem drop_mono (l : List Int) (c t : Nat) (v : Int) (h : ∀ x, l[c]? = some x → x ≤ v) : sumI (l.drop t) ≤ sumI ((l.set c v).drop t) := by
  rw [List.drop_set]
  split
  · exact Int.le_refl _
  · refine sum_mono _ _ v fun x hx => ?_
    rw [List.getElem?_drop] at hx
    exact h x (by rwa [show t + (c - t) = c by omega] at hx)
theorem le_sum {l : List Int} {c : Nat} {x : Int} (h : ∀ x, x ∈ l → 0 ≤ x) (hc : l[c]? = some x) : x ≤ sumI l := by
  have h1 := sum_take hc
  have h2 := nn_take h c
  have h3 := nn_drop h (c + 1)
  have h4 := sum_split l (c + 1)
  omega
/-- what all could add -/
def allOf (os : List OpS) : Int := sumI (os.map fun o => o.y)
theorem allOf_set {os : List OpS} {q : Nat} {o o' : OpS} (h : os[q]? = some o) (hy : o'.y = o.y) : allOf (os.set q o') = allOf os := by
  unfold allOf
  rw [List.map_set, sumI_set _ q _ o.y (by simp [h])]
  omega
theorem total_le {os : List OpS} : (∀ o, o ∈ os → 0 ≤ o.y ∧ o.k ≠ 4) → totalOf os ≤ allOf os := by
  induction os with
  | nil => intro _; simp [totalOf, allOf, sumI]
  | cons a os ih =>
    intro h
    have h1 := h a (by simp)
    have h2 := ih (fun o ho => h o (by simp [ho]))
    have e1 : totalOf (a :: os) = contrib a + totalOf os := rfl
    have e2 : allOf (a :: os) = a.y + allOf os := rfl
    rw [e1, e2]
    have : contrib a ≤ a.y := by
      unfold contrib
      rw [if_neg h1.2]
      split
      · split <;> omega
      · omega
    omega

/-- what holds behind each action -/
structure BetI (ws : List Int) (os : List OpS) (ls fs : List Int) (gs : List Bool) (gr : Int) : Prop where
  exact_ : sumI ws = totalOf os
  cap : allOf os < 18446744073709551616
  nn : ∀ x, x ∈ ws → 0 ≤ x
  yy : ∀ o, o ∈ os → 0 ≤ o.y ∧ o.k ≠ 4
  gr0 : 0 ≤ gr ∧ gr ≤ sumI ws
  ops : ∀ (q : Nat) o, os[q]? = some o → gs[q]? = some (decide (0 < o.t)) ∧ ∃ l f, ls[q]? = some l ∧ fs[q]? = some f ∧ (0 < o.t → o.k = 3 → 0 ≤ f ∧ f ≤ l ∧ l ≤ o.s + sumI (ws.drop o.t) ∧ 0 ≤ o.s ∧ o.s ≤ sumI (ws.take o.t))
section
variable {ws ls fs : List Int} {os : List OpS} {gs : List Bool} {gr : Int}
theorem BetI.sum_lt (h : BetI ws os ls fs gs gr) : 0 ≤ sumI ws ∧ sumI ws < 18446744073709551616 := by
  have h1 := total_le h.yy
  have h2 := h.exact_
  have h3 := h.cap
  exact ⟨sum_nn h.nn, by omega⟩
/-- what a cell has behind an Add -/
theorem BetI.add (h : BetI ws os ls fs gs gr) {q c : Nat} {o : OpS} {x : Int} (ho : os[q]? = some o) (hk : o.k = 1) (ht : o.t = 0) (hx : ws[c]? = some x) : 0 ≤ x + o.y ∧ sumI ws + o.y < 18446744073709551616 ∧ x + o.y < 18446744073709551616 := by
  have h0 := h.nn x (List.mem_of_getElem? hx)
  have hy := (h.yy o (List.mem_of_getElem? ho)).1
  have h1 := le_sum h.nn hx
  have h2 := totalOf_set os q o ⟨o.k, o.i, o.y, o.t + 1, 0⟩ ho
  have hle := total_le (os := os.set q ⟨o.k, o.i, o.y, o.t + 1, 0⟩) (fun y hy => by
    rcases List.mem_or_eq_of_mem_set hy with hy | rfl
    · exact h.yy y hy
    · exact h.yy o (List.mem_of_getElem? ho))
  rw [allOf_set (o' := ⟨o.k, o.i, o.y, o.t + 1, 0⟩) ho rfl] at hle
  have e1 : contrib ⟨o.k, o.i, o.y, o.t + 1, 0⟩ = o.y := by simp [contrib, hk]
  have e2 : contrib o = 0 := by simp [contrib, hk, ht]
  have h3 := h.exact_
  have h4 := h.cap
  omega
/-- behind a step, told for the one that was stepped -/
theorem BetI.next {q c : Nat} {o o' : OpS} {v x : Int} {ls' fs' : List Int} {gs' : List Bool} (h : BetI ws os ls fs gs gr) (ho : os[q]? = some o) (hc : ws[c]? = some x) (hv : x ≤ v) (e1 : o'.k = o.k) (e2 : o'.y = o.y) (hsum : v - x = contrib o' - contrib o)
    (hl : ∀ p, p ≠ q → ls'[p]? = ls[p]?) (hf : ∀ p, p ≠ q → fs'[p]? = fs[p]?) (hg : ∀ p, p ≠ q → gs'[p]? = gs[p]?) (hgq : gs'[q]? = some (decide (0 < o'.t)))
    (hq : ∃ l f, ls'[q]? = some l ∧ fs'[q]? = some f ∧ (0 < o'.t → o'.k = 3 → 0 ≤ f ∧ f ≤ l ∧ l ≤ o'.s + sumI ((ws.set c v).drop o'.t) ∧ 0 ≤ o'.s ∧ o'.s ≤ sumI ((ws.set c v).take o'.t))) :
    BetI (ws.set c v) (os.set q o') ls' fs' gs' gr := by
  have hup : ∀ y, ws[c]? = some y → y ≤ v := fun y hy => by rw [hc] at hy; cases hy; exact hv
  have h0 := h.nn x (List.mem_of_getElem? hc)
  refine ⟨?_, by rw [allOf_set ho e2]; exact h.cap, fun y hy => ?_, fun y hy => ?_, ?_, fun p y hy => ?_⟩
  · rw [sumI_set ws c v x hc, totalOf_set os q o o' ho, h.exact_]
    omega
  · rcases List.mem_or_eq_of_mem_set hy with hy | rfl
    · exact h.nn y hy
    · omega
  · rcases List.mem_or_eq_of_mem_set hy with hy | rfl
    · exact h.yy y hy
    · rw [e1, e2]; exact h.yy o (List.mem_of_getElem? ho)
  · have := h.gr0
    have := sum_mono ws c v hup
    omega
  · by_cases e : p = q
    · subst e
      rw [List.getElem?_set_self (lt_of_get ho)] at hy
      cases hy
      exact ⟨hgq, hq⟩
    · rw [List.getElem?_set_ne (fun e' => e e'.symm)] at hy
      obtain ⟨a, l, f, b1, b2, b3⟩ := h.ops p y hy
      refine ⟨by rw [hg p e]; exact a, l, f, by rw [hl p e]; exact b1, by rw [hf p e]; exact b2, fun h1 h2 => ?_⟩
      obtain ⟨c1, c2, c3, c4, c5⟩ := b3 h1 h2
      have := take_mono ws c y.t v hup
      have := drop_mono ws c y.t v hup
      exact ⟨c1, c2, by omega, c4, by omega⟩
theorem BetI.up (h : BetI ws os ls fs gs gr) {v : Int} (h0 : 0 ≤ v) (h1 : v ≤ sumI ws) : BetI ws os ls fs gs v := ⟨h.exact_, h.cap, h.nn, h.yy, ⟨h0, h1⟩, h.ops⟩
end

def bools (l : List Bool) : List Value := l.map Value.bool
theorem bools_get {l : List Bool} {q : Nat} {x : Bool} (h : l[q]? = some x) : (bools l)[q]? = some (.bool x) := by simp [bools, h]
theorem bools_set (l : List Bool) (q : Nat) (x : Bool) : (bools l).set q (.bool x) = bools (l.set q x) := by simp [bools, List.map_set]
theorem u64s_get2 {l : List Int} {q : Nat} {x : Int} (h : l[q]? = some x) : (u64s l)[q]? = some (.int .u64 x) := by simp [u64s, h]
theorem u64s_made (n : Nat) : (madeCells (Value.int .u64 0).cells (n * 1)).toList = u64s (List.replicate n 0) := by
  apply List.ext_getElem?
  intro i
  simp only [madeCells, Value.cells, Nat.mul_one, u64s]
  by_cases h : i < n
  · simp [h, Nat.mod_one]
  · simp [h]
theorem bools_made (n : Nat) : (madeCells (Value.bool false).cells (n * 1)).toList = bools (List.replicate n false) := by
  apply List.ext_getElem?
  intro i
  simp only [madeCells, Value.cells, Nat.mul_one, bools]
  by_cases h : i < n
  · simp [h, Nat.mod_one]
  · simp [h]
theorem infoU64 : (Try.prog.info? 29).map (fun i => (i.zero, i.size, i.bytes)) = some (some (.int .u64 0), 1, 8) := by kernel_rfl
theorem infoBo : (Try.prog.info? 4).map (fun i => (i.zero, i.size, i.bytes)) = some (some (.bool false), 1, 1) := by kernel_rfl
section
variable {W wr w1 : World} {bc bk bw gl gf gb : Nat} {ws ws' ls fs : List Int} {os : List OpS} {bs : List Nat} {gs : List Bool} {vp vk : Value}
/-- behind what turns a block of another type -/
theorem Going.off {g : Nat} {t : TypeId} {l : List Value} (h : Going W bc bk bw ws os bs vp vk wr) (hg : Row wr g t l) (hlo : W.heap.size ≤ g) (hP : Part [g] wr w1)
    (n1 : 134 ≠ t) (n2 : 158 ≠ t) (n3 : 168 ≠ t) (n4 : 72 ≠ t) (n5 : 139 ≠ t) (n6 : 77 ≠ t) : Going W bc bk bw ws os bs vp vk w1 := by
  refine ⟨own_part h.ps hP (fun q hq => by simpa using own_off h.ps hg n4 q hq), own_part h.ks hP (fun q hq => by simpa using own_off h.ks hg n6 q hq), ?_,
    h.shard.part hP (by simpa using h.shard.head.ne hg n1) (by simpa using h.shard.words.head.ne hg n2) (by simpa using h.shard.words.row.ne hg n3), h.lo, h.low.trans (hP.below h.low.size (by simpa using hlo)), h.cong, h.ok⟩
  exact ⟨h.pends.len, fun q o x ho hx => (h.pends.row q o x ho hx).part hP (by simpa using (h.pends.row q o x ho hx).ne hg n5), h.pends.nodup, h.pends.lo, h.pends.right⟩
/-- operations under way, and three lists -/
structure BetM (W : World) (bc bk bw : Nat) (ws : List Int) (os : List OpS) (bs : List Nat) (vp vk : Value) (gl gb gf : Nat) (ls fs : List Int) (gs : List Bool) (wr : World) : Prop where
  going : Going W bc bk bw ws os bs vp vk wr
  rl : Row wr gl 29 (u64s ls)
  rb : Row wr gb 4 (bools gs)
  rf : Row wr gf 29 (u64s fs)
  ne : gl ≠ gf
  lo : W.heap.size ≤ gl ∧ W.heap.size ≤ gb ∧ W.heap.size ≤ gf
  len : ls.length = bs.length ∧ gs.length = bs.length ∧ fs.length = bs.length
theorem BetM.on (h : BetM W bc bk bw ws os bs vp vk gl gb gf ls fs gs wr) (hb : Below wr.heap.size wr w1) : BetM W bc bk bw ws os bs vp vk gl gb gf ls fs gs w1 :=
  ⟨h.going.on hb, h.rl.below hb h.rl.lt, h.rb.below hb h.rb.lt, h.rf.below hb h.rf.lt, h.ne, h.lo, h.len⟩
theorem BetM.alloc (h : BetM W bc bk bw ws os bs vp vk gl gb gf ls fs gs wr) (o : Obj) : BetM W bc bk bw ws os bs vp vk gl gb gf ls fs gs (wr.alloc o) := h.on ((Below.refl _ _).alloc (Nat.le_refl _) o)
theorem BetM.begin_ {q : Nat} {a g : Int} (h : BetM W bc bk bw ws os bs vp vk gl gb gf ls fs gs wr) :
    BetM W bc bk bw ws os bs vp vk gl gb gf (ls.set q a) (fs.set q g) (gs.set q true) (((wr.setCell ⟨gb, q, none⟩ (.bool true)).setCell ⟨gl, q, none⟩ (.int .u64 a)).setCell ⟨gf, q, none⟩ (.int .u64 g)) := by
  have nlb : gl ≠ gb := h.rl.ne h.rb (by decide)
  have nfb : gf ≠ gb := h.rf.ne h.rb (by decide)
  have P1 : Part [gb] wr (wr.setCell ⟨gb, q, none⟩ (.bool true)) := Part.set (Part.refl _ _) (by simp) _
  have G1 := h.going.off h.rb h.lo.2.1 P1 (by decide) (by decide) (by decide) (by decide) (by decide) (by decide)
  have L1 := h.rl.part P1 (by simpa using nlb)
  have F1 := h.rf.part P1 (by simpa using nfb)
  have B1 : Row (wr.setCell ⟨gb, q, none⟩ (.bool true)) gb 4 (bools (gs.set q true)) := by rw [← bools_set]; exact h.rb.set q _
  have P2 : Part [gl] (wr.setCell ⟨gb, q, none⟩ (.bool true)) ((wr.setCell ⟨gb, q, none⟩ (.bool true)).setCell ⟨gl, q, none⟩ (.int .u64 a)) := Part.set (Part.refl _ _) (by simp) _
  have G2 := G1.off L1 h.lo.1 P2 (by decide) (by decide) (by decide) (by decide) (by decide) (by decide)
  have L2 : Row ((wr.setCell ⟨gb, q, none⟩ (.bool true)).setCell ⟨gl, q, none⟩ (.int .u64 a)) gl 29 (u64s (ls.set q a)) := by rw [← u64s_set]; exact L1.set q _
  have F2 := F1.part P2 (by simpa using h.ne.symm)
  have B2 := B1.part P2 (by simpa using nlb.symm)
  have P3 : Part [gf] ((wr.setCell ⟨gb, q, none⟩ (.bool true)).setCell ⟨gl, q, none⟩ (.int .u64 a)) (((wr.setCell ⟨gb, q, none⟩ (.bool true)).setCell ⟨gl, q, none⟩ (.int .u64 a)).setCell ⟨gf, q, none⟩ (.int .u64 g)) := Part.set (Part.refl _ _) (by simp) _
  exact ⟨G2.off F2 h.lo.2.2 P3 (by decide) (by decide) (by decide) (by decide) (by decide) (by decide), L2.part P3 (by simpa using h.ne), B2.part P3 (by simpa using nfb.symm), by rw [← u64s_set]; exact F2.set q _, h.ne, h.lo, by simp [h.len]⟩
theorem BetM.step {q b : Nat} {o : OpS} {x : Int} {v : Value} {e : Ending} (h : BetM W bc bk bw ws os bs vp vk gl gb gf ls fs gs wr) (ho : os[q]? = some o) (hb : bs[q]? = some b) (ht : o.t < many ws.length o.k) (hx : ws[cellOf ws.length o.k o.i o.t]? = some x)
    (hs : Stepped wr bk bw b (ws.set (cellOf ws.length o.k o.i o.t) (putOf o.k o.y x)) (opL bk ws.length o.k o.i o.y (o.t + 1) (sumOf o.k o.y o.s x)) v e w1) :
    BetM W bc bk bw (ws.set (cellOf ws.length o.k o.i o.t) (putOf o.k o.y x)) (os.set q (nextS ws o x)) bs vp vk gl gb gf ls fs gs w1 := by
  have hP := hs.2.2.2
  have hrow := h.going.pends.row q o b ho hb
  have hw := h.going.shard.words.row
  have off : ∀ {g : Nat} {t : TypeId} {l : List Value}, Row wr g t l → t ≠ 168 → t ≠ 139 → Row w1 g t l := fun hg n1 n2 => hg.part hP (by simp; exact ⟨hg.ne hw n1, hg.ne hrow n2⟩)
  exact ⟨h.going.step ho hb ht hx hs, off h.rl (by decide) (by decide), off h.rb (by decide) (by decide), off h.rf (by decide) (by decide), h.ne, h.lo, h.len⟩
end
end Go.Proofs.Ytigknlipeipbgaa
