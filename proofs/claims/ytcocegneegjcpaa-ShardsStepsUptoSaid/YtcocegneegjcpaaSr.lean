/- OPERATIONS OF A COUNTER THAT ARE ALL UNDER WAY, STEPPED IN ANY ORDER; and what they come to. -/
import Derived.Test.YtcocegneegjcpaaSq
namespace Go.Proofs.Ytcocegneegjcpaa
open Go Go.RowKit

theorem own_base {w : World} {base base' n size : Nat} {e : TypeId} {v : Value} {xs : List Value} (h : w.ownsRow base e size v n xs) (hb : base' ≤ base) : w.ownsRow base' e size v n xs := by
  obtain ⟨h1, h2⟩ := h
  refine ⟨h1, ?_⟩
  rcases h2 with h2 | ⟨g, cap, cur, hv, hg, r⟩
  · exact .inl h2
  · exact .inr ⟨g, cap, cur, hv, Nat.le_trans hb hg, r⟩
theorem own_off {w : World} {base n size b : Nat} {e t : TypeId} {v : Value} {xs l : List Value} (h : w.ownsRow base e size v n xs) (hb : Row w b t l) (hne : e ≠ t) : ∀ q, v.ownBlock = some q → q ≠ b := by
  intro q hq he
  subst he
  exact own_not_in h hb hne hq.symm
theorem own_cell {w : World} {base n c g : Nat} {e : TypeId} {size : Nat} {xs : List Value} (h : w.ownsRow base e size (.slice (some ⟨g, 0, none⟩) n c) n xs) {j : Nat} {u : Value} (hj : xs[j]? = some u) : w.cell? ⟨g, j, none⟩ = some u := by
  have := h.cells (g := g) rfl j u hj
  rwa [add_zero_] at this
theorem own_form {w : World} {base n : Nat} {e : TypeId} {v : Value} {xs : List Value} {size : Nat} (h : w.ownsRow base e size v n xs) : ∃ a c, v = .slice a n c := by
  rcases h.2 with ⟨hv, e⟩ | ⟨g, c, cur, hv, _⟩
  · subst e; exact ⟨none, 0, hv⟩
  · exact ⟨_, c, hv⟩
theorem ptrs_get {bs : List Nat} {q b : Nat} (h : bs[q]? = some b) : (ptrs bs)[q]? = some (.pointer (some ⟨b, 0, none⟩)) := by simp [ptrs, h]
theorem kindCells_get {os : List OpS} : ∀ {q : Nat} {o : OpS}, os[q]? = some o → (kindCells os)[q * 3]? = some (.int .u8 o.k) ∧ (kindCells os)[q * 3 + 2]? = some (.int .u64 o.y) := by
  induction os with
  | nil => intro q o h; simp at h
  | cons a os ih =>
    intro q o h
    have e : kindCells (a :: os) = [.int .u8 a.k, .int .i64 (a.i : Int), .int .u64 a.y] ++ kindCells os := rfl
    rw [e]
    cases q with
    | zero => simp at h; subst h; simp
    | succ q =>
      simp at h
      obtain ⟨h1, h2⟩ := ih h
      rw [List.getElem?_append_right (by simp; omega), List.getElem?_append_right (by simp; omega)]
      have e1 : (q + 1) * 3 - [Value.int .u8 a.k, .int .i64 (a.i : Int), .int .u64 a.y].length = q * 3 := by simp; omega
      have e2 : (q + 1) * 3 + 2 - [Value.int .u8 a.k, .int .i64 (a.i : Int), .int .u64 a.y].length = q * 3 + 2 := by simp; omega
      rw [e1, e2]
      exact ⟨h1, h2⟩
theorem kindCells_set {os : List OpS} {o' : OpS} : ∀ {q : Nat} {o : OpS}, os[q]? = some o → o'.k = o.k → o'.i = o.i → o'.y = o.y → kindCells (os.set q o') = kindCells os := by
  induction os with
  | nil => intro q o h; simp at h
  | cons a os ih =>
    intro q o h hk hi hy
    cases q with
    | zero => simp at h; subst h; simp [kindCells, hk, hi, hy]
    | succ q =>
      simp at h
      have := ih h hk hi hy
      simp only [List.set_cons_succ]
      unfold kindCells at this ⊢
      simp only [List.flatMap_cons, this]
/-- an operation that is well -/
def OkS (n : Nat) (o : OpS) : Prop := o.t ≤ many n o.k ∧ (o.t = 0 → o.s = 0)
/-- operations under way -/
structure Going (W : World) (bc bk bw : Nat) (ws : List Int) (os : List OpS) (bs : List Nat) (vp vk : Value) (wr : World) : Prop where
  ps : wr.ownsRow W.heap.size 62 1 vp bs.length (ptrs bs)
  ks : wr.ownsRow W.heap.size 67 3 vk bs.length (kindCells os)
  pends : Pends wr W.heap.size bk ws.length os bs
  shard : Shard wr bc bk bw ws
  lo : W.heap.size ≤ bw
  low : Below W.heap.size W wr
  cong : Cong (sumI ws) (totalOf os)
  ok : ∀ o, o ∈ os → OkS ws.length o
section
variable {W wr w1 : World} {bc bk bw : Nat} {ws : List Int} {os : List OpS} {bs : List Nat} {vp vk : Value}
theorem Going.on (h : Going W bc bk bw ws os bs vp vk wr) (hb : Below wr.heap.size wr w1) : Going W bc bk bw ws os bs vp vk w1 :=
  ⟨own_part h.ps (Part.of_below hb (Nat.le_refl _) []) (by simp), own_part h.ks (Part.of_below hb (Nat.le_refl _) []) (by simp), h.pends.part (Part.of_below hb (Nat.le_refl _) []) (by simp), h.shard.on hb, h.lo, h.low.trans (hb.mono h.low.size), h.cong, h.ok⟩
theorem Going.start {w0 : World} {ops : List (Int × Int × Int)} {n : Nat} (hb : Below W.heap.size W w0) (hlo : W.heap.size ≤ bw) (h : StartIn w0 bc bk bw (List.replicate n 0) (pick ops) bs vp vk w1) : Going W bc bk bw (List.replicate n 0) (pick ops) bs vp vk w1 := by
  refine ⟨own_base h.ps hb.size, own_base h.ks hb.size, ⟨h.pends.len, h.pends.row, h.pends.nodup, fun b hb' => Nat.le_trans hb.size (h.pends.lo b hb'), h.pends.right⟩, h.shard, hlo, hb.trans (h.low.mono hb.size), cong_start n ops, fun o ho => ?_⟩
  unfold pick at ho
  rw [List.mem_filterMap] at ho
  obtain ⟨op, _, h'⟩ := ho
  split at h'
  · cases h'; exact ⟨Nat.zero_le _, fun _ => rfl⟩
  · cases h'
theorem Going.get {q : Nat} (h : Going W bc bk bw ws os bs vp vk wr) (hq : q < bs.length) : ∃ o b g c g' c', os[q]? = some o ∧ bs[q]? = some b ∧ vp = .slice (some ⟨g, 0, none⟩) bs.length c ∧ vk = .slice (some ⟨g', 0, none⟩) bs.length c' ∧ wr.cell? ⟨g, q, none⟩ = some (.pointer (some ⟨b, 0, none⟩)) ∧
    wr.cell? ⟨g', q * 3, none⟩ = some (.int .u8 o.k) ∧ wr.cell? ⟨g', q * 3 + 2, none⟩ = some (.int .u64 o.y) ∧ Row wr b 126 (opL bk ws.length o.k o.i o.y o.t o.s) ∧ RightN o.k o.i o.y ∧ OkS ws.length o := by
  obtain ⟨g, c, rfl, _, _⟩ := own_some h.ps (by omega)
  obtain ⟨g', c', rfl, _, _⟩ := own_some h.ks (by omega)
  have h1 : os[q]? = some (os[q]'(by rw [← h.pends.len]; exact hq)) := List.getElem?_eq_getElem _
  have h2 : bs[q]? = some bs[q] := List.getElem?_eq_getElem hq
  obtain ⟨k0, k2⟩ := kindCells_get h1
  exact ⟨_, _, g, c, g', c', h1, h2, rfl, rfl, own_cell h.ps (ptrs_get h2), own_cell h.ks k0, own_cell h.ks k2, h.pends.row q _ _ h1 h2, h.pends.right _ (List.mem_of_getElem? h1), h.ok _ (List.mem_of_getElem? h1)⟩
/-- one is stepped -/
def nextS (_ws : List Int) (o : OpS) (x : Int) : OpS := ⟨o.k, o.i, o.y, o.t + 1, sumOf o.k o.y o.s x⟩
theorem Going.step {q b : Nat} {o : OpS} {x : Int} {v : Value} {e : Ending} (h : Going W bc bk bw ws os bs vp vk wr) (ho : os[q]? = some o) (hb : bs[q]? = some b) (ht : o.t < many ws.length o.k) (hx : ws[cellOf ws.length o.k o.i o.t]? = some x)
    (hs : Stepped wr bk bw b (ws.set (cellOf ws.length o.k o.i o.t) (putOf o.k o.y x)) (opL bk ws.length o.k o.i o.y (o.t + 1) (sumOf o.k o.y o.s x)) v e w1) :
    Going W bc bk bw (ws.set (cellOf ws.length o.k o.i o.t) (putOf o.k o.y x)) (os.set q (nextS ws o x)) bs vp vk w1 := by
  obtain ⟨_, hW, hR, hP⟩ := hs
  have hmem := List.mem_of_getElem? hb
  have hrow := h.pends.row q o b ho hb
  have hlo := h.pends.lo b hmem
  have hr := h.pends.right o (List.mem_of_getElem? ho)
  have hl : (ws.set (cellOf ws.length o.k o.i o.t) (putOf o.k o.y x)).length = ws.length := List.length_set
  have n1 : bc ∉ [bw, b] := by simp; exact ⟨h.shard.ne, h.shard.head.ne hrow (by decide)⟩
  refine ⟨own_part h.ps hP (fun r hr => by simp; exact ⟨own_off h.ps h.shard.words.row (by decide) r hr, own_off h.ps hrow (by decide) r hr⟩), ?_, ?_, ⟨h.shard.head.part hP n1, hW, by rw [hl]; exact h.shard.pos, by rw [hl]; exact h.shard.top⟩, h.lo, h.low.trans (hP.below h.low.size (by have := h.lo; simp; omega)), ?_, ?_⟩
  · rw [kindCells_set (o' := nextS ws o x) ho rfl rfl rfl]
    exact own_part h.ks hP (fun r hr => by simp; exact ⟨own_off h.ks h.shard.words.row (by decide) r hr, own_off h.ks hrow (by decide) r hr⟩)
  · rw [hl]
    refine h.pends.step (o' := nextS ws o x) hb hR hP (fun y hy => ?_) hr
    obtain ⟨r, hr'⟩ := List.getElem?_of_mem hy
    exact (h.pends.row r _ y (List.getElem?_eq_getElem (by rw [← h.pends.len]; exact lt_of_get hr')) hr').ne h.shard.words.row (by decide)
  · exact step_cong h.cong ho hx hr (fun hk => by rw [hk] at ht; simp [many] at ht; exact ht)
  · intro y hy
    rw [hl]
    rcases List.mem_or_eq_of_mem_set hy with hy | rfl
    · exact h.ok y hy
    · exact ⟨by show o.t + 1 ≤ _; exact ht, fun h0 => by simp [nextS] at h0⟩
theorem Going.cell {o : OpS} (h : Going W bc bk bw ws os bs vp vk wr) (ht : o.t < many ws.length o.k) : ∃ x, ws[cellOf ws.length o.k o.i o.t]? = some x := ⟨_, List.getElem?_eq_getElem (cell_lt h.shard.pos ht)⟩
end
/-- what all Adds of a list added; what its Takes have taken -/
def addedOf (os : List OpS) : Int := sumI (os.map fun o => if o.k = 1 then o.y else 0)
def takenOf (os : List OpS) : Int := sumI (os.map fun o => if o.k = 4 then o.s else 0)
theorem added_next {os : List OpS} {j : Nat} {o : OpS} (h : os[j]? = some o) : addedOf (os.take (j + 1)) = addedOf (os.take j) + (if o.k = 1 then o.y else 0) := by
  rw [List.take_add_one, h]
  simp only [addedOf, Option.toList, List.map_append, sumI_append, List.map_cons, List.map_nil, sumI_cons]
  simp [sumI]
theorem taken_next {os : List OpS} {j : Nat} {o : OpS} (h : os[j]? = some o) : takenOf (os.take (j + 1)) = takenOf (os.take j) + (if o.k = 4 then o.s else 0) := by
  rw [List.take_add_one, h]
  simp only [takenOf, Option.toList, List.map_append, sumI_append, List.map_cons, List.map_nil, sumI_cons]
  simp [sumI]
/-- the j first have ended -/
def OverS (n : Nat) (os : List OpS) (j : Nat) : Prop := ∀ i o, i < j → os[i]? = some o → many n o.k ≤ o.t
theorem OverS.set {n : Nat} {os : List OpS} {j q : Nat} {o : OpS} (h : OverS n os j) (hq : j ≤ q) : OverS n (os.set q o) j := fun i x hi hx => by
  rw [List.getElem?_set_ne (by omega)] at hx
  exact h i x hi hx
theorem OverS.next {n : Nat} {os : List OpS} {j : Nat} {o : OpS} (h : OverS n os j) (ho : os[j]? = some o) (h2 : many n o.k ≤ o.t) : OverS n os (j + 1) := fun i x hi hx => by
  by_cases e : i = j
  · subst e; rw [ho] at hx; cases hx; exact h2
  · exact h i x (by omega) hx
/-- when all have ended: what was added, less what was taken -/
theorem total_over {n : Nat} (hn : 0 < n) : ∀ {os : List OpS}, (∀ o, o ∈ os → many n o.k ≤ o.t) → totalOf os = addedOf os - takenOf os := by
  intro os
  induction os with
  | nil => intro _; rfl
  | cons a os ih =>
    intro h
    have e1 : totalOf (a :: os) = contrib a + totalOf os := rfl
    have e2 : addedOf (a :: os) = (if a.k = 1 then a.y else 0) + addedOf os := rfl
    have e3 : takenOf (a :: os) = (if a.k = 4 then a.s else 0) + takenOf os := rfl
    have h0 := h a (by simp)
    have hp := many_pos hn a.k
    rw [e1, e2, e3, ih (fun o ho => h o (by simp [ho]))]
    unfold contrib
    by_cases k1 : a.k = 1
    · have : ¬ a.k = 4 := by omega
      rw [if_pos k1, if_pos (by omega), if_pos k1, if_neg this]
      omega
    · rw [if_neg k1, if_neg k1]
      split <;> omega
end Go.Proofs.Ytcocegneegjcpaa
