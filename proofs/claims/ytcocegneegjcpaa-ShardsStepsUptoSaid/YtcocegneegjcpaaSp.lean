/- THE WALK of the statements' own 'started': the operations of a list that are right, begun. -/
import Derived.Test.YtcocegneegjcpaaSo
import Derived.Test.YtcocegneegjcpaaSd
namespace Go.Proofs.Ytcocegneegjcpaa
open Go Go.RowKit

/-- a list of operations that came in, by its cells -/
def ExtOps (w : World) (A : Option Addr) (ops : List (Int × Int × Int)) : Prop := ∀ j op, ops[j]? = some op → ∃ b o, A = some ⟨b, o, none⟩ ∧ b < w.heap.size ∧
  w.cell? ⟨b, o + j * 3, none⟩ = some (.int .u8 op.1) ∧ w.cell? ⟨b, o + j * 3 + 1, none⟩ = some (.int .i64 op.2.1) ∧ w.cell? ⟨b, o + j * 3 + 2, none⟩ = some (.int .u64 op.2.2)
theorem ExtOps.on {w w' : World} {A : Option Addr} {ops : List (Int × Int × Int)} (h : ExtOps w A ops) (hb : Below w.heap.size w w') : ExtOps w' A ops := fun j op hj => by
  obtain ⟨b, o, e, hlt, h0, h1, h2⟩ := h j op hj
  exact ⟨b, o, e, Nat.lt_of_lt_of_le hlt hb.size, (hb.cell (p := ⟨b, o + j * 3, none⟩) hlt).trans h0, (hb.cell (p := ⟨b, o + j * 3 + 1, none⟩) hlt).trans h1, (hb.cell (p := ⟨b, o + j * 3 + 2, none⟩) hlt).trans h2⟩

/-- the ones that are right -/
def pick (ops : List (Int × Int × Int)) : List OpS := ops.filterMap fun op => if rightB op.1 op.2.1 op.2.2 then some ⟨op.1, op.2.1.toNat, op.2.2, 0, 0⟩ else none
theorem pick_take (ops : List (Int × Int × Int)) {j : Nat} {op : Int × Int × Int} (h : ops[j]? = some op) :
    pick (ops.take (j + 1)) = pick (ops.take j) ++ (if rightB op.1 op.2.1 op.2.2 then [⟨op.1, op.2.1.toNat, op.2.2, 0, 0⟩] else []) := by
  rw [List.take_add_one, h]
  unfold pick
  rw [List.filterMap_append]
  congr 1
  cases hb : rightB op.1 op.2.1 op.2.2 <;> simp [hb]
theorem pick_length (ops : List (Int × Int × Int)) : (pick ops).length ≤ ops.length := List.length_filterMap_le _ _
def ptrs (bs : List Nat) : List Value := bs.map fun b => .pointer (some ⟨b, 0, none⟩)
def kindCells (os : List OpS) : List Value := os.flatMap fun o => [.int .u8 o.k, .int .i64 (o.i : Int), .int .u64 o.y]
theorem ptrs_snoc (bs : List Nat) (b : Nat) : ptrs bs ++ [.pointer (some ⟨b, 0, none⟩)] = ptrs (bs ++ [b]) := by simp [ptrs]
theorem kindCells_snoc (os : List OpS) (o : OpS) : kindCells os ++ [.int .u8 o.k, .int .i64 (o.i : Int), .int .u64 o.y] = kindCells (os ++ [o]) := by simp [kindCells]

/-- all operations of a list are under way, each in a block of its own -/
structure Pends (w : World) (lo bk n : Nat) (os : List OpS) (bs : List Nat) : Prop where
  len : bs.length = os.length
  row : ∀ (q : Nat) (o : OpS) (b : Nat), os[q]? = some o → bs[q]? = some b → Row w b 126 (opL bk n o.k o.i o.y o.t o.s)
  nodup : bs.Nodup
  lo : ∀ b, b ∈ bs → lo ≤ b
  right : ∀ o, o ∈ os → RightN o.k o.i o.y
theorem Pends.lt {w : World} {lo bk n : Nat} {os : List OpS} {bs : List Nat} (h : Pends w lo bk n os bs) : ∀ b, b ∈ bs → b < w.heap.size := fun b hb => by
  obtain ⟨q, hq⟩ := List.getElem?_of_mem hb
  have hl := lt_of_get hq
  exact (h.row q _ b (List.getElem?_eq_getElem (by rw [← h.len]; exact hl)) hq).lt
theorem Pends.part {w w' : World} {lo bk n : Nat} {os : List OpS} {bs : List Nat} {S : List Nat} (h : Pends w lo bk n os bs) (hp : Part S w w') (hS : ∀ b, b ∈ bs → b ∉ S) : Pends w' lo bk n os bs :=
  ⟨h.len, fun q o b ho hb => (h.row q o b ho hb).part hp (hS b (List.mem_of_getElem? hb)), h.nodup, h.lo, h.right⟩
theorem Pends.snoc {w w' : World} {lo bk n : Nat} {os : List OpS} {bs : List Nat} {o : OpS} {b : Nat} (h : Pends w lo bk n os bs) (hb : Below w.heap.size w w') (hr : Row w' b 126 (opL bk n o.k o.i o.y o.t o.s)) (hn : w.heap.size ≤ b) (hlo : lo ≤ w.heap.size) (ho : RightN o.k o.i o.y) :
    Pends w' lo bk n (os ++ [o]) (bs ++ [b]) := by
  have hlt := h.lt
  have h' := h.part (Part.of_below hb (Nat.le_refl _) []) (by simp)
  refine ⟨by simp [h.len], fun q o' b' ho' hb' => ?_, ?_, fun x hx => ?_, fun x hx => ?_⟩
  · by_cases hq : q < os.length
    · rw [List.getElem?_append_left hq] at ho'
      rw [List.getElem?_append_left (by rw [h.len]; exact hq)] at hb'
      exact h'.row q o' b' ho' hb'
    · rw [List.getElem?_append_right (by omega)] at ho'
      rw [List.getElem?_append_right (by rw [h.len]; omega)] at hb'
      have hq0 : q - os.length = 0 := by have := lt_of_get ho'; simp at this; omega
      have hq1 : q - bs.length = 0 := by rw [h.len]; exact hq0
      rw [hq0] at ho'
      rw [hq1] at hb'
      simp at ho' hb'
      subst ho'
      subst hb'
      exact hr
  · rw [List.nodup_append]
    refine ⟨h.nodup, by simp, fun x hx y hy => ?_⟩
    simp at hy
    subst hy
    have := hlt x hx
    omega
  · rw [List.mem_append] at hx
    rcases hx with hx | hx
    · exact h.lo x hx
    · simp at hx; subst hx; omega
  · rw [List.mem_append] at hx
    rcases hx with hx | hx
    · exact h.right x hx
    · simp at hx; subst hx; exact ho

theorem own_part {w w' : World} {S : List Nat} {base : Nat} {e : TypeId} {size : Nat} {v : Value} {n : Nat} {xs : List Value} (h : w.ownsRow base e size v n xs) (hp : Part S w w') (hS : ∀ q, v.ownBlock = some q → q ∉ S) : w'.ownsRow base e size v n xs := by
  obtain ⟨h1, h2⟩ := h
  refine ⟨h1, ?_⟩
  rcases h2 with h2 | ⟨g, cap, cur, hv, hg, hh, r⟩
  · exact Or.inl h2
  · subst hv
    exact Or.inr ⟨g, cap, cur, rfl, hg, (hp.block g (lt_of_block hh) (hS g rfl)).trans hh, r⟩
theorem start_op {w : World} {bc bk bw : Nat} {ws : List Int} (h : Shard w bc bk bw ws) {k i y : Int} (hr : rightB k i y = true) :
    Calls Try.prog 24 #[.pointer (some ⟨bc, 0, none⟩), .agg #[.int .u8 k, .int .i64 i, .int .u64 y]] w (Begun w (opL bk ws.length k i.toNat y 0 0)) := by
  obtain ⟨m, rfl, hm⟩ := rightB_iff.1 hr
  exact start_right h hm
theorem info72 : (Try.prog.info? 62).map (fun i => (i.zero, i.size, i.bytes)) = some (some (.pointer none), 1, 8) := by kernel_rfl
theorem info77 : (Try.prog.info? 67).map (fun i => (i.zero, i.size, i.bytes)) = some (some (.agg #[.int .u8 0, .int .i64 0, .int .u64 0]), 3, 24) := by kernel_rfl
theorem one_ptr (a : Addr) : ∀ u ∈ [Value.pointer (some a)], u.oneCell' = true := by intro u hu; simp at hu; subst hu; rfl
theorem three_cells (k i y : Int) : ∀ u ∈ [Value.int .u8 k, .int .i64 i, .int .u64 y], u.oneCell' = true := by
  intro u hu
  simp at hu
  rcases hu with rfl | rfl | rfl <;> rfl
theorem new_three (w : World) (a b c : Value) (t : TypeId) : ∀ j u, [a, b, c][j]? = some u → (w.alloc (.cells #[a, b, c] t)).cell? ((⟨w.heap.size, 0, none⟩ : Addr).add j) = some u := by
  intro j u hj
  rw [add_zero_]
  have h := (Row.new w t [a, b, c]).cell j
  exact h.trans hj
theorem own_apart {w : World} {base base' n n' size size' : Nat} {e e' : TypeId} {v v' : Value} {xs xs' : List Value} (h : w.ownsRow base e size v n xs) (h' : w.ownsRow base' e' size' v' n' xs') (hne : e ≠ e') : v.ownBlock = none ∨ v.ownBlock ≠ v'.ownBlock := by
  rcases h.2 with ⟨rfl, _⟩ | ⟨g, _, cur, rfl, _, hh, _⟩
  · exact .inl rfl
  · right
    rcases h'.2 with ⟨rfl, _⟩ | ⟨g', _, cur', rfl, _, hh', _⟩
    · simp [Value.ownBlock]
    · intro he
      simp [Value.ownBlock] at he
      subst he
      rw [hh] at hh'
      injection hh' with hh'
      injection hh' with _ ht
      exact hne ht
theorem own_not_in {w : World} {base n size b : Nat} {e t : TypeId} {v : Value} {xs l : List Value} (h : w.ownsRow base e size v n xs) (hb : Row w b t l) (hne : e ≠ t) : some b ≠ v.ownBlock := by
  rcases h.2 with ⟨rfl, _⟩ | ⟨g, _, cur, rfl, _, hh, _⟩
  · simp [Value.ownBlock]
  · intro he
    simp [Value.ownBlock] at he
    subst he
    unfold Row at hb
    rw [hh] at hb
    injection hb with hb
    injection hb with _ ht
    exact hne ht

/-- j operations of the list have been looked at -/
structure StartIn (w : World) (bc bk bw : Nat) (ws : List Int) (os : List OpS) (bs : List Nat) (vp vk : Value) (wr : World) : Prop where
  ps : wr.ownsRow w.heap.size 62 1 vp bs.length (ptrs bs)
  ks : wr.ownsRow w.heap.size 67 3 vk bs.length (kindCells os)
  pends : Pends wr w.heap.size bk ws.length os bs
  shard : Shard wr bc bk bw ws
  low : Below w.heap.size w wr
theorem StartIn.on {w : World} {bc bk bw : Nat} {ws : List Int} {os : List OpS} {bs : List Nat} {vp vk : Value} {wr w1 : World} (h : StartIn w bc bk bw ws os bs vp vk wr) (hb : Below wr.heap.size wr w1) : StartIn w bc bk bw ws os bs vp vk w1 :=
  ⟨own_part h.ps (Part.of_below hb (Nat.le_refl _) []) (by simp), own_part h.ks (Part.of_below hb (Nat.le_refl _) []) (by simp), h.pends.part (Part.of_below hb (Nat.le_refl _) []) (by simp), h.shard.on hb, h.low.trans (hb.mono h.low.size)⟩
def StartAt (w : World) (bc bk bw : Nat) (ws : List Int) (os : List OpS) (vp vk : Value) (wr : World) : Prop := ∃ bs, StartIn w bc bk bw ws os bs vp vk wr
/-- what 'started' leaves -/
def StartedTo (w : World) (bc bk bw : Nat) (ws : List Int) (os : List OpS) (e : Ending) (w' : World) : Prop := ∃ vp vk, e = .returned (.tuple #[vp, vk]) ∧ StartAt w bc bk bw ws os vp vk w'

theorem StartIn.grow {w : World} {bc bk bw : Nat} {ws : List Int} {os : List OpS} {o : OpS} {bs : List Nat} {bp : Nat} {vp vk vp' vk' : Value} {wr w5 w6 w7 : World} {ob : Obj} {ob' : Obj} (h : StartIn w bc bk bw ws os bs vp vk wr)
    (hb5 : Below wr.heap.size wr w5) (hr5 : Row w5 bp 126 (opL bk ws.length o.k o.i o.y o.t o.s)) (hn : wr.heap.size ≤ bp) (ho : RightN o.k o.i o.y)
    (h6 : w6.ownsRow w.heap.size 62 1 vp' (bs.length + 1) (ptrs bs ++ [.pointer (some ⟨bp, 0, none⟩)])) (hg6 : (w5.alloc ob).grownBy w6 vp.ownBlock)
    (h7 : w7.ownsRow w.heap.size 67 3 vk' (bs.length + 1) (kindCells os ++ [.int .u8 o.k, .int .i64 (o.i : Int), .int .u64 o.y])) (hg7 : (w6.alloc ob').grownBy w7 vk.ownBlock) :
    StartIn w bc bk bw ws (os ++ [o]) (bs ++ [bp]) vp' vk' w7 := by
  have h5 := h.on hb5
  have hp5 := h.pends.snoc hb5 hr5 hn h.low.size ho
  -- the first append turns vp's row alone
  have hlow6 : Below w.heap.size w w6 := (h5.low.alloc h5.low.size ob).grown hg6 (by have := h5.low.size; simp; omega) (own_from h5.ps)
  have hlow7 : Below w.heap.size w w7 := (hlow6.alloc hlow6.size ob').grown hg7 (by have := hlow6.size; simp; omega) (own_from h5.ks)
  have pend6 : Pends w6 w.heap.size bk ws.length (os ++ [o]) (bs ++ [bp]) := by
    refine ⟨hp5.len, fun q x b hx hbq => ?_, hp5.nodup, hp5.lo, hp5.right⟩
    have hrow := hp5.row q x b hx hbq
    exact (hrow.alloc ob).grown hg6 (own_not_in h5.ps hrow (by decide))
  have ks6 : w6.ownsRow w.heap.size 67 3 vk bs.length (kindCells os) := (h5.ks.alloc ob).kept hg6 (own_apart h5.ks h5.ps (by decide))
  have pend7 : Pends w7 w.heap.size bk ws.length (os ++ [o]) (bs ++ [bp]) := by
    refine ⟨hp5.len, fun q x b hx hbq => ?_, hp5.nodup, hp5.lo, hp5.right⟩
    have hrow := pend6.row q x b hx hbq
    exact (hrow.alloc ob').grown hg7 (own_not_in ks6 hrow (by decide))
  have ps7 : w7.ownsRow w.heap.size 62 1 vp' (bs.length + 1) (ptrs bs ++ [.pointer (some ⟨bp, 0, none⟩)]) := (h6.alloc ob').kept hg7 (own_apart h6 ks6 (by decide))
  have sh : ∀ {b : Nat} {t : TypeId} {l : List Value}, Row w5 b t l → 62 ≠ t → 67 ≠ t → Row w7 b t l := fun hrow n1 n2 => by
    have r6 := (hrow.alloc ob).grown hg6 (own_not_in h5.ps hrow n1)
    exact (r6.alloc ob').grown hg7 (own_not_in ks6 r6 n2)
  have s5 := h5.shard
  refine ⟨?_, ?_, pend7, ⟨sh s5.head (by decide) (by decide), ⟨sh s5.words.head (by decide) (by decide), sh s5.words.row (by decide) (by decide), s5.words.few, s5.words.ok⟩, s5.pos, s5.top⟩, hlow7⟩
  · rw [List.length_append, List.length_singleton, ← ptrs_snoc]; exact ps7
  · rw [List.length_append, List.length_singleton, ← kindCells_snoc]; exact h7

end Go.Proofs.Ytcocegneegjcpaa
