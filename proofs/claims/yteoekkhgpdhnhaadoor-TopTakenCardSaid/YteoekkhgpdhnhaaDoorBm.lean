/- OPERATIONS OF A QUOTA THAT ARE ALL UNDER WAY, IN PLAIN WORDS. -/
import Derived.Test.YteoekkhgpdhnhaaDoorBk
import Derived.Test.YteoekkhgpdhnhaaDoorEp
namespace Go.Proofs.YteoekkhgpdhnhaaDoor
open Go Go.RowKit
set_option maxRecDepth 100000

/-- all operations of a list are under way, each in a block of its own -/
structure PendsB (w : World) (lo bq n : Nat) (os : List OpB) (bs : List Nat) : Prop where
  len : bs.length = os.length
  row : ∀ (q : Nat) (o : OpB) (b : Nat), os[q]? = some o → bs[q]? = some b → Row w b 97 (rowB bq o)
  nodup : bs.Nodup
  lo : ∀ b, b ∈ bs → lo ≤ b
  ok : ∀ o, o ∈ os → OkB (n + 1) o
section
variable {w w' : World} {lo bq n : Nat} {os : List OpB} {bs : List Nat}
theorem PendsB.nil (w : World) (lo bq n : Nat) : PendsB w lo bq n [] [] := ⟨rfl, by simp, by simp, by simp, by simp⟩
theorem PendsB.lt (h : PendsB w lo bq n os bs) : ∀ b, b ∈ bs → b < w.heap.size := fun b hb => by
  obtain ⟨q, hq⟩ := List.getElem?_of_mem hb
  have hl := lt_of_get hq
  exact (h.row q _ b (List.getElem?_eq_getElem (by rw [← h.len]; exact hl)) hq).lt
theorem PendsB.part {S : List Nat} (h : PendsB w lo bq n os bs) (hp : Part S w w') (hS : ∀ b, b ∈ bs → b ∉ S) : PendsB w' lo bq n os bs :=
  ⟨h.len, fun q o b ho hb => (h.row q o b ho hb).part hp (hS b (List.mem_of_getElem? hb)), h.nodup, h.lo, h.ok⟩
theorem PendsB.grown {row : Option Nat} (h : PendsB w lo bq n os bs) (hg : w.grownBy w' row) (hr : ∀ (b : Nat) (l : List Value), Row w b 97 l → some b ≠ row) : PendsB w' lo bq n os bs :=
  ⟨h.len, fun q o b ho hb => (h.row q o b ho hb).grown hg (hr b _ (h.row q o b ho hb)), h.nodup, h.lo, h.ok⟩
theorem PendsB.snoc {o : OpB} {b : Nat} (h : PendsB w lo bq n os bs) (hb : Below w.heap.size w w') (hr : Row w' b 97 (rowB bq o)) (hn : w.heap.size ≤ b) (hlo : lo ≤ w.heap.size) (ho : OkB (n + 1) o) :
    PendsB w' lo bq n (os ++ [o]) (bs ++ [b]) := by
  have hlt := h.lt
  have h' := h.part (Part.of_below hb (Nat.le_refl _) []) (by simp)
  refine ⟨by simp [h.len], fun q o' b' ho' hb' => ?_, ?_, fun x hx => ?_, fun x hx => ?_⟩
  · by_cases hq : q < os.length
    · rw [List.getElem?_append_left hq] at ho'
      rw [List.getElem?_append_left (by rw [h.len]; exact hq)] at hb'
      exact h'.row q o' b' ho' hb'
    · rw [List.getElem?_append_right (by omega)] at ho'
      rw [List.getElem?_append_right (by rw [h.len]; omega)] at hb'
      have hq0 : q - os.length = 0 := by have := lt_of_get ho'; simp at this; omega
      have hq1 : q - bs.length = 0 := by rw [h.len]; exact hq0
      rw [hq0] at ho'
      rw [hq1] at hb'
      simp at ho' hb'
      subst ho'
      subst hb'
      exact hr
  · rw [List.nodup_append]
    refine ⟨h.nodup, by simp, fun x hx y hy => ?_⟩
    simp at hy
    subst hy
    have := hlt x hx
    omega
  · rw [List.mem_append] at hx
    rcases hx with hx | hx
    · exact h.lo x hx
    · simp at hx; subst hx; omega
  · rw [List.mem_append] at hx
    rcases hx with hx | hx
    · exact h.ok x hx
    · simp at hx; subst hx; exact ho
theorem PendsB.step {q b bw : Nat} {o' : OpB} (h : PendsB w lo bq n os bs) (hb : bs[q]? = some b) (hR : Row w' b 97 (rowB bq o')) (hP : Part [bw, b] w w') (hbw : ∀ x, x ∈ bs → x ≠ bw) (ho' : OkB (n + 1) o') : PendsB w' lo bq n (os.set q o') bs := by
  refine ⟨by rw [List.length_set]; exact h.len, fun p x c hx hc => ?_, h.nodup, h.lo, fun x hx => ?_⟩
  · by_cases e : p = q
    · subst e
      rw [hb] at hc
      cases hc
      have hl : p < os.length := by rw [← h.len]; exact lt_of_get hb
      rw [List.getElem?_set_self hl] at hx
      cases hx
      exact hR
    · rw [List.getElem?_set_ne (fun e' => e e'.symm)] at hx
      have hne : c ≠ b := fun e' => by
        subst e'
        exact e ((List.getElem?_inj (lt_of_get hc) h.nodup).1 (hc.trans hb.symm))
      exact (h.row p x c hx hc).part hP (by simp; exact ⟨hbw c (List.mem_of_getElem? hc), hne⟩)
  · rcases List.mem_or_eq_of_mem_set hx with hx | rfl
    · exact h.ok x hx
    · exact ho'
end
/-- the operations of a list that are right, ahead of their first action -/
def pickB (n : Nat) (ops : List (Int × Int)) : List OpB := ops.filterMap fun op => if rightB n op.1 op.2 then some (newB op.1 op.2.toNat) else none
theorem pickB_take (n : Nat) (ops : List (Int × Int)) {j : Nat} {op : Int × Int} (h : ops[j]? = some op) :
    pickB n (ops.take (j + 1)) = pickB n (ops.take j) ++ (if rightB n op.1 op.2 then [newB op.1 op.2.toNat] else []) := by
  rw [List.take_add_one, h]
  unfold pickB
  rw [List.filterMap_append]
  congr 1
  cases hb : rightB n op.1 op.2 <;> simp [hb]
theorem pickB_length (n : Nat) (ops : List (Int × Int)) : (pickB n ops).length ≤ ops.length := List.length_filterMap_le _ _
theorem infoP : (Tryd.prog.info? 30).map (fun i => (i.zero, i.size, i.bytes)) = some (some (.pointer none), 1, 8) := by kernel_rfl
theorem infoQO : (Tryd.prog.info? 35).map (fun i => (i.zero, i.size, i.bytes)) = some (some (.agg #[.int .u8 0, .int .i64 0]), 2, 16) := by kernel_rfl
/-- a quota of the call's own -/
structure OneB (W : World) (bq bk bw : Nat) (ba : Int) (n : Nat) (ws : List Int) (wr : World) : Prop where
  quo : QuoM wr bq bk bw ba ws
  len : ws.length = n + 1
  lo : W.heap.size ≤ bw
  low : Below W.heap.size W wr
theorem OneB.on {W wr w1 : World} {bq bk bw n : Nat} {ba : Int} {ws : List Int} (h : OneB W bq bk bw ba n ws wr) (hb : Below wr.heap.size wr w1) : OneB W bq bk bw ba n ws w1 := ⟨h.quo.on hb, h.len, h.lo, h.low.trans (hb.mono h.low.size)⟩
theorem OneB.start {W w0 w1 : World} {bq bk bw n : Nat} {ba : Int} {ws : List Int} (hb0 : Below W.heap.size W w0) (hw : w0.heap.size ≤ bw) (hq : QuoM w1 bq bk bw ba ws) (hl : ws.length = n + 1) (hb : Below w0.heap.size w0 w1) : OneB W bq bk bw ba n ws w1 :=
  ⟨hq, hl, Nat.le_trans hb0.size hw, hb0.trans (hb.mono hb0.size)⟩
/-- a quota of the call's own, and operations on it; the slice vp has their addresses -/
structure ManyB (W : World) (bq bk bw : Nat) (ba : Int) (n : Nat) (ws : List Int) (os : List OpB) (bs : List Nat) (vp : Value) (wr : World) : Prop where
  one : OneB W bq bk bw ba n ws wr
  ps : wr.ownsRow W.heap.size 30 1 vp bs.length (ptrs bs)
  pends : PendsB wr W.heap.size bq n os bs
section
variable {W wr w1 w5 w6 : World} {bq bk bw n : Nat} {ba : Int} {ws ws' : List Int} {os : List OpB} {bs : List Nat} {vp vp' : Value}
theorem ManyB.nil (h : OneB W bq bk bw ba n ws wr) : ManyB W bq bk bw ba n ws [] [] (.slice none 0 0) wr := ⟨h, ⟨rfl, .inl ⟨rfl, rfl⟩⟩, PendsB.nil ..⟩
theorem ManyB.on (h : ManyB W bq bk bw ba n ws os bs vp wr) (hb : Below wr.heap.size wr w1) : ManyB W bq bk bw ba n ws os bs vp w1 :=
  ⟨h.one.on hb, own_part h.ps (Part.of_below hb (Nat.le_refl _) []) (by simp), h.pends.part (Part.of_below hb (Nat.le_refl _) []) (by simp)⟩
theorem ManyB.alloc (h : ManyB W bq bk bw ba n ws os bs vp wr) (o : Obj) : ManyB W bq bk bw ba n ws os bs vp (wr.alloc o) := h.on ((Below.refl _ _).alloc (Nat.le_refl _) o)
theorem ManyB.low (h : ManyB W bq bk bw ba n ws os bs vp wr) : Below W.heap.size W wr := h.one.low
/-- behind what turns a block of another type -/
theorem ManyB.off {g : Nat} {t : TypeId} {l : List Value} (h : ManyB W bq bk bw ba n ws os bs vp wr) (hg : Row wr g t l) (hlo : W.heap.size ≤ g) (hP : Part [g] wr w1)
    (n1 : 92 ≠ t) (n2 : 127 ≠ t) (n3 : 146 ≠ t) (n4 : 30 ≠ t) (n5 : 97 ≠ t) : ManyB W bq bk bw ba n ws os bs vp w1 := by
  have b := h.one.quo
  refine ⟨⟨b.part hP (by simpa using b.head.ne hg n1) (by simpa using b.words.head.ne hg n2) (by simpa using b.words.row.ne hg n3), h.one.len, h.one.lo, h.low.trans (hP.below h.low.size (by simpa using hlo))⟩, own_part h.ps hP (fun q hq => by simpa using own_off h.ps hg n4 q hq), ?_⟩
  exact ⟨h.pends.len, fun q o x ho hx => (h.pends.row q o x ho hx).part hP (by simpa using (h.pends.row q o x ho hx).ne hg n5), h.pends.nodup, h.pends.lo, h.pends.ok⟩
/-- behind a growing slice of another type -/
theorem ManyB.grown {base m size : Nat} {e : TypeId} {v : Value} {xs : List Value} (h : ManyB W bq bk bw ba n ws os bs vp wr) (hv : wr.ownsRow base e size v m xs) (hbase : W.heap.size ≤ base) (hg : wr.grownBy w1 v.ownBlock)
    (n1 : e ≠ 92) (n2 : e ≠ 127) (n3 : e ≠ 146) (n4 : 30 ≠ e) (n5 : e ≠ 97) : ManyB W bq bk bw ba n ws os bs vp w1 := by
  have b := h.one.quo
  refine ⟨⟨⟨b.head.grown hg (own_not_in hv b.head n1), ⟨b.words.head.grown hg (own_not_in hv b.words.head n2), b.words.row.grown hg (own_not_in hv b.words.row n3), b.words.few, b.words.ok⟩, b.least, b.top, b.lowb, b.topb⟩, h.one.len, h.one.lo, h.low.grown hg h.low.size (fun q hq => Nat.le_trans hbase (own_from hv q hq))⟩, h.ps.kept hg (own_apart h.ps hv n4), ?_⟩
  exact h.pends.grown hg (fun x l hx => own_not_in hv hx n5)
/-- one operation more -/
theorem ManyB.grow {o : OpB} {bp : Nat} {ob : Obj} (h : ManyB W bq bk bw ba n ws os bs vp wr) (hb5 : Below wr.heap.size wr w5) (hr5 : Row w5 bp 97 (rowB bq o)) (hn : wr.heap.size ≤ bp) (ho : OkB (n + 1) o)
    (h6 : w6.ownsRow W.heap.size 30 1 vp' (bs.length + 1) (ptrs bs ++ [.pointer (some ⟨bp, 0, none⟩)])) (hg6 : (w5.alloc ob).grownBy w6 vp.ownBlock) :
    ManyB W bq bk bw ba n ws (os ++ [o]) (bs ++ [bp]) vp' w6 := by
  have h5 := (h.on hb5).alloc ob
  have hp5 := h.pends.snoc hb5 hr5 hn h.low.size ho
  have hp5' : PendsB (w5.alloc ob) W.heap.size bq n (os ++ [o]) (bs ++ [bp]) := hp5.part (Part.alloc (Part.refl [] _) ob) (by simp)
  have b := h5.one.quo
  refine ⟨⟨⟨b.head.grown hg6 (own_not_in h5.ps b.head (by decide)), ⟨b.words.head.grown hg6 (own_not_in h5.ps b.words.head (by decide)), b.words.row.grown hg6 (own_not_in h5.ps b.words.row (by decide)), b.words.few, b.words.ok⟩, b.least, b.top, b.lowb, b.topb⟩, h5.one.len, h.one.lo, h5.low.grown hg6 h5.low.size (own_from h5.ps)⟩, ?_, hp5'.grown hg6 (fun x l hx => own_not_in h5.ps hx (by decide))⟩
  rw [List.length_append, List.length_singleton, ← ptrs_snoc]
  exact h6
/-- one of them is stepped -/
theorem ManyB.step {q b : Nat} {o' : OpB} (h : ManyB W bq bk bw ba n ws os bs vp wr) (hb : bs[q]? = some b) (hB : QuoM w1 bq bk bw ba ws') (hl : ws'.length = ws.length) (hR : Row w1 b 97 (rowB bq o')) (hP : Part [bw, b] wr w1) (ho' : OkB (n + 1) o') :
    ManyB W bq bk bw ba n ws' (os.set q o') bs vp w1 := by
  have hmem := List.mem_of_getElem? hb
  obtain ⟨x, hx⟩ : ∃ x, os[q]? = some x := ⟨_, List.getElem?_eq_getElem (by rw [← h.pends.len]; exact lt_of_get hb)⟩
  have hrow := h.pends.row q x b hx hb
  have hlo := h.pends.lo b hmem
  refine ⟨⟨hB, hl.trans h.one.len, h.one.lo, h.low.trans (hP.below h.low.size (by have := h.one.lo; simp; omega))⟩, own_part h.ps hP (fun r hr => by simp; exact ⟨own_off h.ps h.one.quo.words.row (by decide) r hr, own_off h.ps hrow (by decide) r hr⟩), h.pends.step hb hR hP (fun y hy => ?_) ho'⟩
  obtain ⟨r, hr⟩ := List.getElem?_of_mem hy
  exact (h.pends.row r _ y (List.getElem?_eq_getElem (by rw [← h.pends.len]; exact lt_of_get hr)) hr).ne h.one.quo.words.row (by decide)
theorem ManyB.get {q : Nat} (h : ManyB W bq bk bw ba n ws os bs vp wr) (hq : q < bs.length) : ∃ o b g c, os[q]? = some o ∧ bs[q]? = some b ∧ vp = .slice (some ⟨g, 0, none⟩) bs.length c ∧ wr.cell? ⟨g, q, none⟩ = some (.pointer (some ⟨b, 0, none⟩)) ∧ Row wr b 97 (rowB bq o) ∧ OkB (n + 1) o := by
  obtain ⟨g, c, rfl, _, _⟩ := own_some h.ps (by omega)
  have h1 : os[q]? = some (os[q]'(by rw [← h.pends.len]; exact hq)) := List.getElem?_eq_getElem _
  have h2 : bs[q]? = some bs[q] := List.getElem?_eq_getElem hq
  exact ⟨_, _, g, c, h1, h2, rfl, own_cell h.ps (ptrs_get h2), h.pends.row q _ _ h1 h2, h.pends.ok _ (List.mem_of_getElem? h1)⟩
end
/-- the cells of a list of operations -/
def qopCells (os : List OpB) : List Value := os.flatMap fun o => [.int .u8 o.k, .int .i64 (o.wk : Int)]
theorem qopCells_snoc (os : List OpB) (o : OpB) : qopCells os ++ [.int .u8 o.k, .int .i64 (o.wk : Int)] = qopCells (os ++ [o]) := by simp [qopCells]
theorem qopCells_get {os : List OpB} : ∀ {q : Nat} {o : OpB}, os[q]? = some o → (qopCells os)[q * 2]? = some (.int .u8 o.k) ∧ (qopCells os)[q * 2 + 1]? = some (.int .i64 (o.wk : Int)) := by
  induction os with
  | nil => intro q o h; simp at h
  | cons a os ih =>
    intro q o h
    have e : qopCells (a :: os) = [.int .u8 a.k, .int .i64 (a.wk : Int)] ++ qopCells os := rfl
    rw [e]
    cases q with
    | zero => simp at h; subst h; simp
    | succ q =>
      simp at h
      obtain ⟨h1, h2⟩ := ih h
      rw [List.getElem?_append_right (by simp; omega), List.getElem?_append_right (by simp; omega)]
      have e1 : (q + 1) * 2 - [Value.int .u8 a.k, .int .i64 (a.wk : Int)].length = q * 2 := by simp; omega
      have e2 : (q + 1) * 2 + 1 - [Value.int .u8 a.k, .int .i64 (a.wk : Int)].length = q * 2 + 1 := by simp; omega
      rw [e1, e2]
      exact ⟨h1, h2⟩
theorem qopCells_set {os : List OpB} {o' : OpB} : ∀ {q : Nat} {o : OpB}, os[q]? = some o → o'.k = o.k → o'.wk = o.wk → qopCells (os.set q o') = qopCells os := by
  induction os with
  | nil => intro q o h; simp at h
  | cons a os ih =>
    intro q o h hk ht
    cases q with
    | zero => simp at h; subst h; simp [qopCells, hk, ht]
    | succ q =>
      simp at h
      have := ih h hk ht
      simp only [List.set_cons_succ]
      unfold qopCells at this ⊢
      simp only [List.flatMap_cons, this]
theorem stepB_same (ba : Int) (ws : List Int) (o : OpB) : (stepB ba ws o).k = o.k ∧ (stepB ba ws o).wk = o.wk := by
  unfold stepB
  repeat' split
  all_goals exact ⟨rfl, rfl⟩
theorem two_nums (k t : Int) : ∀ u ∈ [Value.int .u8 k, .int .i64 t], u.oneCell' = true := by
  intro u hu
  simp at hu
  rcases hu with rfl | rfl <;> rfl
/-- operations under way, and what they are -/
structure KindsB (W : World) (bq bk bw : Nat) (ba : Int) (n : Nat) (ws : List Int) (os : List OpB) (bs : List Nat) (vp vk : Value) (wr : World) : Prop where
  many : ManyB W bq bk bw ba n ws os bs vp wr
  ks : wr.ownsRow W.heap.size 35 2 vk bs.length (qopCells os)
section
variable {W wr w1 w5 w6 w7 : World} {bq bk bw n : Nat} {ba : Int} {ws ws' : List Int} {os : List OpB} {bs : List Nat} {vp vk vp' vk' : Value}
theorem KindsB.on (h : KindsB W bq bk bw ba n ws os bs vp vk wr) (hb : Below wr.heap.size wr w1) : KindsB W bq bk bw ba n ws os bs vp vk w1 := ⟨h.many.on hb, own_part h.ks (Part.of_below hb (Nat.le_refl _) []) (by simp)⟩
theorem KindsB.grow {k : Int} {wk bp : Nat} {ob ob' : Obj} (h : KindsB W bq bk bw ba n ws os bs vp vk wr) (hb5 : Below wr.heap.size wr w5) (hr5 : Row w5 bp 97 (rowB bq (newB k wk))) (hn : wr.heap.size ≤ bp) (ho : FineB n k wk)
    (h6 : w6.ownsRow W.heap.size 30 1 vp' (bs.length + 1) (ptrs bs ++ [.pointer (some ⟨bp, 0, none⟩)])) (hg6 : (w5.alloc ob).grownBy w6 vp.ownBlock)
    (h7 : w7.ownsRow W.heap.size 35 2 vk' (bs.length + 1) (qopCells os ++ [.int .u8 k, .int .i64 (wk : Int)])) (hg7 : (w6.alloc ob').grownBy w7 vk.ownBlock) :
    KindsB W bq bk bw ba n ws (os ++ [newB k wk]) (bs ++ [bp]) vp' vk' w7 := by
  have h5 := (h.on hb5)
  have hm6 := h.many.grow hb5 hr5 hn (OkB.new ho) h6 hg6
  have ks5 : (w5.alloc ob).ownsRow W.heap.size 35 2 vk bs.length (qopCells os) := h5.ks.alloc ob
  have ps5 := (h5.many.alloc ob).ps
  have ks6 : w6.ownsRow W.heap.size 35 2 vk bs.length (qopCells os) := ks5.kept hg6 (own_apart ks5 ps5 (by decide))
  refine ⟨(hm6.alloc ob').grown (ks6.alloc ob') (Nat.le_refl _) hg7 (by decide) (by decide) (by decide) (by decide) (by decide), ?_⟩
  rw [List.length_append, List.length_singleton, ← qopCells_snoc]
  exact h7
/-- one of them is stepped -/
theorem KindsB.step {q b : Nat} {o : OpB} {e : Ending} (h : KindsB W bq bk bw ba n ws os bs vp vk wr) (ho : os[q]? = some o) (hb : bs[q]? = some b) (hs : SteppedO wr bq bk bw b ba ws o e w1) :
    KindsB W bq bk bw ba n (stepBW ba ws o) (os.set q (stepB ba ws o)) bs vp vk w1 := by
  obtain ⟨_, hB, hR, hP⟩ := hs
  have hrow := h.many.pends.row q o b ho hb
  obtain ⟨s1, s2⟩ := stepB_same ba ws o
  have hok := h.many.pends.ok o (List.mem_of_getElem? ho)
  have hok' : OkB (n + 1) (stepB ba ws o) := by
    rw [← h.many.one.len] at hok ⊢
    exact hok.step h.many.one.quo.words.ok h.many.one.quo.least
  refine ⟨h.many.step hb hB (stepBW_length _ _ _) hR hP hok', ?_⟩
  rw [qopCells_set ho s1 s2]
  exact own_part h.ks hP (fun r hr => by simp; exact ⟨own_off h.ks h.many.one.quo.words.row (by decide) r hr, own_off h.ks hrow (by decide) r hr⟩)
end
end Go.Proofs.YteoekkhgpdhnhaaDoor
