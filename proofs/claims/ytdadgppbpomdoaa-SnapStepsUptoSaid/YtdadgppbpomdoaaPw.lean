/- WHAT 'SnapLost' HAS, STEP BY STEP, IN PLAIN WORDS. -/
import Derived.Test.YtdadgppbpomdoaaPu
import Derived.Test.YtdadgppbpomdoaaPv
import Derived.Test.YtdadgppbpomdoaaEx
namespace Go.Proofs.Ytdadgppbpomdoaa
open Go Go.RowKit

def intsI (l : List Int) : List Value := l.map (Value.int .i64)
theorem intsI_snoc (l : List Int) (x : Int) : intsI l ++ [.int .i64 x] = intsI (l ++ [x]) := by simp [intsI]
theorem intsI_get {l : List Int} {i : Nat} {x : Int} (h : l[i]? = some x) : (intsI l)[i]? = some (.int .i64 x) := by simp [intsI, h]
theorem kindQ_cons (o : OpQ) (os : List OpQ) : kindQ (o :: os) = .int .u8 o.k :: .int .i64 o.r :: .int .u32 o.v :: .int .i64 o.t :: kindQ os := rfl
theorem kindQ_get {os : List OpQ} {q : Nat} {o : OpQ} (h : os[q]? = some o) : (kindQ os)[q * 4]? = some (.int .u8 o.k) ∧ (kindQ os)[q * 4 + 1]? = some (.int .i64 o.r) ∧ (kindQ os)[q * 4 + 2]? = some (.int .u32 o.v) ∧ (kindQ os)[q * 4 + 3]? = some (.int .i64 o.t) := by
  induction os generalizing q with
  | nil => simp at h
  | cons p os ih =>
    cases q with
    | zero => simp at h; subst h; exact ⟨rfl, rfl, rfl, rfl⟩
    | succ q =>
      obtain ⟨h0, h1, h2, h3⟩ := ih (q := q) (by simpa using h)
      rw [kindQ_cons, show (q + 1) * 4 = q * 4 + 4 by omega, show q * 4 + 4 + 1 = (q * 4 + 1) + 4 by omega, show q * 4 + 4 + 2 = (q * 4 + 2) + 4 by omega, show q * 4 + 4 + 3 = (q * 4 + 3) + 4 by omega]
      exact ⟨h0, h1, h2, h3⟩
theorem kindQ_set {os : List OpQ} {q : Nat} {o o' : OpQ} (h : os[q]? = some o) (hs : o'.k = o.k ∧ o'.r = o.r ∧ o'.v = o.v ∧ o'.t = o.t) : kindQ (os.set q o') = kindQ os := by
  induction os generalizing q with
  | nil => rfl
  | cons p os ih =>
    cases q with
    | zero =>
      simp at h
      subst h
      rw [List.set_cons_zero, kindQ_cons, kindQ_cons, hs.1, hs.2.1, hs.2.2.1, hs.2.2.2]
    | succ q => rw [List.set_cons_succ, kindQ_cons, kindQ_cons, ih (by simpa using h)]
section
variable {W wr w1 w5 w6 w7 : World} {n br bk bw : Nat} {ws : List Int} {os : List OpQ} {bs X : List Nat} {Fs : List (List Nat)} {vp vk vp' vk' : Value}
theorem ManyQ.step {q b : Nat} {o : OpQ} {F F' : List Nat} (h : ManyQ W n br bk bw ws os bs Fs vp vk X wr) (ho : os[q]? = some o) (hb : bs[q]? = some b) (hF : Fs[q]? = some F)
    (hW : Words w1 bk bw (stepQW ws o)) (hq : PendQ w1 W.heap.size bk n b (stepQ ws o) F') (hF' : ∀ x ∈ F', x ∈ F ∨ wr.heap.size ≤ x) (hP : Part (bw :: F) wr w1) : ManyQ W n br bk bw (stepQW ws o) (os.set q (stepQ ws o)) bs (Fs.set q F') vp vk X w1 := by
  have hFm := List.mem_of_getElem? hF
  have hok := h.pends.ok o (List.mem_of_getElem? ho)
  have off : ∀ x, x ∈ br :: bk :: bw :: (vp.ownBlock.toList ++ vk.ownBlock.toList ++ X) → x ≠ bw → x ∉ bw :: F := fun x hx hne hm => by
    rcases List.mem_cons.1 hm with e | hm
    · exact hne e
    · exact h.pends.off F hFm x hm hx
  refine ⟨⟨h.st.regs.next hP hW (off br (by simp) h.st.regs.ne) (stepQW_length _ _), (stepQW_length _ _).trans h.st.len, h.st.lo, h.st.low.trans (hP.below h.st.low.size (fun x hx => ?_))⟩, ?_, ?_, ?_⟩
  · rcases List.mem_cons.1 hx with rfl | hx
    · exact h.st.lo
    · exact (h.pends.lt hFm hx).1
  · exact own_part h.ps hP (fun x hx => off x (by simp [hx]) (own_off h.ps h.st.regs.words.row (by decide) x hx))
  · rw [kindQ_set ho (stepQ_same ws o)]
    exact own_part h.ks hP (fun x hx => off x (by simp [hx]) (own_off h.ks h.st.regs.words.row (by decide) x hx))
  · exact h.pends.step hb hF hP (by simp) hq hF' (stepQ_ok h.st.regs.words.ok h.st.len hok)
/-- behind a growing slice of another type, whose block is among X -/
theorem ManyQ.regrow {m size g : Nat} {e : TypeId} {v : Value} {xs : List Value} {Y : List Nat} (h : ManyQ W n br bk bw ws os bs Fs vp vk X wr) (hv : wr.ownsRow W.heap.size e size v m xs) (hvX : ∀ q, v.ownBlock = some q → q ∈ X) (hg : wr.grownBy w1 v.ownBlock) (hat : v.ownBlock = some g ∨ g = wr.heap.size) (hgl : g < w1.heap.size) (hY : ∀ y ∈ Y, y ∈ X ∨ y = g)
    (n1 : e ≠ 78) (n2 : e ≠ 94) (n3 : e ≠ 108) (n4 : 31 ≠ e) (n5 : 37 ≠ e) : ManyQ W n br bk bw ws os bs Fs vp vk Y w1 :=
  ⟨h.st.grown hv (Nat.le_refl _) hg n1 n2 n3, h.ps.kept hg (own_apart h.ps hv n4), h.ks.kept hg (own_apart h.ks hv n5), h.pends.regrow hg (fun q hq => by simp [hvX q hq]) hat hgl (fun y hy => by
    simp at hy ⊢
    rcases hy with e | e | e | e | e | e
    · exact .inl (.inl e)
    · exact .inl (.inr (.inl e))
    · exact .inl (.inr (.inr (.inl e)))
    · exact .inl (.inr (.inr (.inr (.inl e))))
    · exact .inl (.inr (.inr (.inr (.inr (.inl e)))))
    · rcases hY y e with e | e
      · exact .inl (.inr (.inr (.inr (.inr (.inr e)))))
      · exact .inr e)⟩
/-- behind what turns blocks of X alone -/
theorem ManyQ.far {g : Nat} {t : TypeId} {l : List Value} (h : ManyQ W n br bk bw ws os bs Fs vp vk X wr) (hg : Row wr g t l) (hX : g ∈ X) (hlo : W.heap.size ≤ g) (hP : Part [g] wr w1)
    (n1 : 78 ≠ t) (n2 : 94 ≠ t) (n3 : 108 ≠ t) (n4 : 31 ≠ t) (n5 : 37 ≠ t) : ManyQ W n br bk bw ws os bs Fs vp vk X w1 := by
  have r := h.st.regs
  exact ⟨⟨r.part hP (by simpa using r.head.ne hg n1) (by simpa using r.words.head.ne hg n2) (by simpa using r.words.row.ne hg n3), h.st.len, h.st.lo, h.st.low.trans (hP.below h.st.low.size (by simpa using hlo))⟩, own_part h.ps hP (fun q hq => by simpa using own_off h.ps hg n4 q hq), own_part h.ks hP (fun q hq => by simpa using own_off h.ks hg n5 q hq), h.pends.onX hP (by simp [hX])⟩
/-- one of them -/
theorem ManyQ.get {q : Nat} (h : ManyQ W n br bk bw ws os bs Fs vp vk X wr) (hq : q < bs.length) : ∃ o b F gp cp gk ck, os[q]? = some o ∧ bs[q]? = some b ∧ Fs[q]? = some F ∧ PendQ wr W.heap.size bk n b o F ∧ OkQ n o ∧ vp = .slice (some ⟨gp, 0, none⟩) bs.length cp ∧ vk = .slice (some ⟨gk, 0, none⟩) bs.length ck ∧
    wr.cell? ⟨gp, q, none⟩ = some (.pointer (some ⟨b, 0, none⟩)) ∧ wr.cell? ⟨gk, q * 4, none⟩ = some (.int .u8 o.k) ∧ wr.cell? ⟨gk, q * 4 + 1, none⟩ = some (.int .i64 o.r) ∧ wr.cell? ⟨gk, q * 4 + 2, none⟩ = some (.int .u32 o.v) ∧ gp < wr.heap.size ∧ gk < wr.heap.size := by
  obtain ⟨o, b, F, h1, h2, h3, h4, h5⟩ := h.pends.get hq
  obtain ⟨gp, cp, rfl, _, hgp⟩ := own_some h.ps (by omega)
  obtain ⟨gk, ck, rfl, _, hgk⟩ := own_some h.ks (by omega)
  obtain ⟨k0, k1, k2, _⟩ := kindQ_get h1
  exact ⟨o, b, F, gp, cp, gk, ck, h1, h2, h3, h4, h5, rfl, rfl, own_cell h.ps (ptrs_get h2), own_cell h.ks k0, own_cell h.ks k1, own_cell h.ks k2, hgp, hgk⟩
end

/-- what SnapLost has: the operations under way; the order of actions; what the registers must have -/
structure LostSt (W : World) (n br bk bw : Nat) (ws : List Int) (os : List OpQ) (bs : List Nat) (Fs : List (List Nat)) (vp vk : Value) (gw : Nat) (wt : List Int) (vo : Value) (ord : List Int) (wr : World) : Prop where
  many : ManyQ W n br bk bw ws os bs Fs vp vk (gw :: vo.ownBlock.toList) wr
  ord : wr.ownsRow W.heap.size 3 1 vo ord.length (intsI ord)
  want : Row wr gw 60 (regCells wt)
  lo : W.heap.size ≤ gw
section
variable {W wr w1 : World} {n br bk bw gw : Nat} {ws wt ord : List Int} {os : List OpQ} {bs : List Nat} {Fs : List (List Nat)} {vp vk vo : Value}
theorem LostSt.on (h : LostSt W n br bk bw ws os bs Fs vp vk gw wt vo ord wr) (hb : Below wr.heap.size wr w1) : LostSt W n br bk bw ws os bs Fs vp vk gw wt vo ord w1 :=
  ⟨h.many.on hb, own_part h.ord (Part.of_below hb (Nat.le_refl _) []) (by simp), h.want.below hb h.want.lt, h.lo⟩
theorem LostSt.app {g cap : Nat} {x : Int} {ob : Obj} (h : LostSt W n br bk bw ws os bs Fs vp vk gw wt vo ord wr) (hown : w1.ownsRow W.heap.size 3 1 (.slice (some ⟨g, 0, none⟩) (ord.length + 1) cap) (ord.length + 1) (intsI ord ++ [.int .i64 x])) (hg : (wr.alloc ob).grownBy w1 vo.ownBlock) (hat : vo.ownBlock = some g ∨ g = (wr.alloc ob).heap.size) :
    LostSt W n br bk bw ws os bs Fs vp vk gw wt (.slice (some ⟨g, 0, none⟩) (ord.length + 1) cap) (ord ++ [x]) w1 := by
  have h5 := h.on ((Below.refl _ _).alloc (Nat.le_refl _) ob)
  refine ⟨h5.many.regrow h5.ord (fun q e => by simp [e]) hg hat (own_block hown g rfl) (fun y hy => by
    simp [Value.ownBlock] at hy ⊢
    rcases hy with e | e
    · exact .inl (.inl e)
    · exact .inr e) (by decide) (by decide) (by decide) (by decide) (by decide), ?_, h5.want.grown hg (own_not_in h5.ord h5.want (by decide)), h.lo⟩
  rw [List.length_append, List.length_singleton, ← intsI_snoc]
  exact hown
theorem LostSt.app' {g cap m : Nat} {x : Int} {ob : Obj} (h : LostSt W n br bk bw ws os bs Fs vp vk gw wt vo ord wr) (hm : ord.length = m) (hown : w1.ownsRow W.heap.size 3 1 (.slice (some ⟨g, 0, none⟩) (m + 1) cap) (m + 1) (intsI ord ++ [.int .i64 x])) (hg : (wr.alloc ob).grownBy w1 vo.ownBlock) (hat : vo.ownBlock = some g ∨ g = (wr.alloc ob).heap.size) :
    LostSt W n br bk bw ws os bs Fs vp vk gw wt (.slice (some ⟨g, 0, none⟩) (m + 1) cap) (ord ++ [x]) w1 := by
  subst hm
  exact h.app hown hg hat
theorem LostSt.ordn {m : Nat} (h : LostSt W n br bk bw ws os bs Fs vp vk gw wt vo ord wr) (hm : ord.length = m) : wr.ownsRow W.heap.size 3 1 vo m (intsI ord) := by
  subst hm
  exact h.ord
theorem LostSt.nil {X : List Nat} (h : ManyQ W n br bk bw ws os bs Fs vp vk [] wr) (hw : Row w1 gw 60 (regCells wt)) (hb : Below wr.heap.size wr w1) (hlo : wr.heap.size ≤ gw) : LostSt W n br bk bw ws os bs Fs vp vk gw wt (.slice none 0 0) [] w1 := by
  have h1 := h.on hb
  have hsz := h.st.low.size
  refine ⟨⟨h1.st, h1.ps, h1.ks, h1.pends.withX (fun y hy => ?_)⟩, World.ownsRow_nil _ _ _ _, hw, by omega⟩
  change y ∈ br :: bk :: bw :: (vp.ownBlock.toList ++ vk.ownBlock.toList ++ [gw]) at hy
  simp at hy
  rcases hy with e | e | e | e | e | e
  · left; simp [e]
  · left; simp [e]
  · left; simp [e]
  · left; simp [e]
  · left; simp [e]
  · right
    subst e
    exact ⟨fun F hF hm => by have := (h.pends.lt hF hm).2; omega, hw.lt⟩
/-- a step of one of them -/
theorem lost_step {q b : Nat} {o : OpQ} {F : List Nat} {d0 d1 d2 d3 : Int} {d4 l : Bool} (h : LostSt W n br bk bw ws os bs Fs vp vk gw wt vo ord wr) (h64 : n ≤ 64) (ho : os[q]? = some o) (hb : bs[q]? = some b) (hF : Fs[q]? = some F) (hq : PendQ wr W.heap.size bk n b o F) (hok : OkQ n o)
    (hd : didQ ws o = (d0, d1, d2, d3, d4)) (hl : decide ((stepQ ws o).ph = 2) = l) :
    Calls Try.prog 14 #[.pointer (some ⟨b, 0, none⟩)] wr fun e w' => e = .returned (.tuple #[.agg #[.int .u8 d0, .int .i64 d1, .int .u64 d2, .int .u64 d3, .bool d4], .bool l]) ∧
      ∃ Fs', LostSt W n br bk bw (stepQW ws o) (os.set q (stepQ ws o)) bs Fs' vp vk gw wt vo ord w' := by
  refine (qstep_op h.many.st.regs.words h.many.st.len h64 hq h.many.st.low.size hok).mono ?_
  rintro e w' ⟨rfl, hW, ⟨F', hq', hF'⟩, hP⟩
  have hFm := List.mem_of_getElem? hF
  refine ⟨by rw [hd, hl]; rfl, Fs.set q F', ?_⟩
  have hX : ∀ x, x ∈ gw :: vo.ownBlock.toList → x ≠ bw → x ∉ bw :: F := fun x hx hne hm => by
    rcases List.mem_cons.1 hm with e | hm
    · exact hne e
    · exact h.many.pends.off F hFm x hm (by
        simp only [List.mem_cons, List.mem_append]
        simp only [List.mem_cons] at hx
        rcases hx with e | e
        · exact .inr (.inr (.inr (.inr (.inl e))))
        · exact .inr (.inr (.inr (.inr (.inr e)))))
  exact ⟨h.many.step ho hb hF hW hq' hF' hP, own_part h.ord hP (fun x hx => hX x (by simp [hx]) (own_off h.ord h.many.st.regs.words.row (by decide) x hx)), h.want.part hP (hX gw (by simp) (h.want.ne h.many.st.regs.words.row (by decide))), h.lo⟩
/-- what must be there, turned -/
theorem LostSt.wantSet {wt' : List Int} {l : List Value} (h : LostSt W n br bk bw ws os bs Fs vp vk gw wt vo ord wr) (hr : Row w1 gw 60 l) (hl : l = regCells wt') (hP : Part [gw] wr w1) : LostSt W n br bk bw ws os bs Fs vp vk gw wt' vo ord w1 :=
  ⟨h.many.far h.want (by simp) h.lo hP (by decide) (by decide) (by decide) (by decide) (by decide), own_part h.ord hP (fun q hq => by simpa using own_off h.ord h.want (by decide) q hq), hl ▸ hr, h.lo⟩
theorem LostSt.kind {q gk ck : Nat} {o : OpQ} (h : LostSt W n br bk bw ws os bs Fs vp (.slice (some ⟨gk, 0, none⟩) bs.length ck) gw wt vo ord wr) (ho : os[q]? = some o) :
    wr.cell? ⟨gk, q * 4, none⟩ = some (.int .u8 o.k) ∧ wr.cell? ⟨gk, q * 4 + 1, none⟩ = some (.int .i64 o.r) ∧ wr.cell? ⟨gk, q * 4 + 2, none⟩ = some (.int .u32 o.v) ∧ gk < wr.heap.size := by
  obtain ⟨k0, k1, k2, _⟩ := kindQ_get ho
  have c0 := own_cell h.many.ks k0
  exact ⟨c0, own_cell h.many.ks k1, own_cell h.many.ks k2, World.block_lt_of_cell? _ _ c0⟩
theorem LostSt.kind' {q gk ck : Nat} {o : OpQ} {ws' : List Int} (h : LostSt W n br bk bw ws' (os.set q (stepQ ws o)) bs Fs vp (.slice (some ⟨gk, 0, none⟩) bs.length ck) gw wt vo ord wr) (ho : os[q]? = some o) :
    wr.cell? ⟨gk, q * 4, none⟩ = some (.int .u8 o.k) ∧ wr.cell? ⟨gk, q * 4 + 1, none⟩ = some (.int .i64 o.r) ∧ wr.cell? ⟨gk, q * 4 + 2, none⟩ = some (.int .u32 o.v) ∧ gk < wr.heap.size := by
  have := h.kind (List.getElem?_set_self (lt_of_get ho))
  rwa [(stepQ_same ws o).1, (stepQ_same ws o).2.1, (stepQ_same ws o).2.2.1] at this
theorem LostSt.ptr {q gp cp b : Nat} (h : LostSt W n br bk bw ws os bs Fs (.slice (some ⟨gp, 0, none⟩) bs.length cp) vk gw wt vo ord wr) (hb : bs[q]? = some b) : wr.cell? ⟨gp, q, none⟩ = some (.pointer (some ⟨b, 0, none⟩)) ∧ gp < wr.heap.size := by
  have c := own_cell h.many.ps (ptrs_get hb)
  exact ⟨c, World.block_lt_of_cell? _ _ c⟩
theorem LostSt.wants {ri : Nat} {x : Int} (h : LostSt W n br bk bw ws os bs Fs vp vk gw wt vo ord wr) (hx : wt[ri]? = some x) : wr.cell? ⟨gw, ri * 2, none⟩ = some (.int .u32 (numW x)) ∧ wr.cell? ⟨gw, ri * 2 + 1, none⟩ = some (.int .u32 (valW x)) ∧ gw < wr.heap.size ∧ (∀ i, wr.frozen? ⟨gw, i, none⟩ = false) :=
  ⟨(h.want.cell _).trans (regCells_num hx), (h.want.cell _).trans (regCells_val hx), h.want.lt, h.want.free⟩
end
theorem didQ_load {n : Nat} {ws : List Int} {o : OpQ} (hok : OkQ n o) (hk : o.k ≠ 1) (hph : o.ph ≠ 2) : (∃ c x, didQ ws o = (1, c, x, x, true)) ∧ stepQW ws o = ws := by
  refine ⟨?_, by unfold stepQW; rw [if_neg (fun e => hk e.1)]⟩
  unfold didQ
  rw [if_neg hph, if_neg (fun e => hk e.1)]
  split
  · exact ⟨_, _, rfl⟩
  · exact ⟨_, _, rfl⟩
theorem set_same {α : Type} {l : List α} {q : Nat} {x : α} (h : l[q]? = some x) : l.set q x = l := List.ext_getElem? fun i => by
  by_cases e : i = q
  · subst e; rw [List.getElem?_set_self (lt_of_get h), h]
  · rw [List.getElem?_set_ne (fun e' => e e'.symm)]
theorem stepL_k (s : List Int × List OpQ) (k : Int) : (stepL s k).2.map OpQ.k = s.2.map OpQ.k := by
  unfold stepL
  split
  · split
    · rename_i o h
      simp only
      rw [List.map_set, (stepQ_same s.1 o).1]
      exact set_same (by simp [h])
    · rfl
  · rfl
theorem runL_k (s : List Int × List OpQ) (l : List Int) : (runL s l).2.map OpQ.k = s.2.map OpQ.k := by
  induction l generalizing s with
  | nil => rfl
  | cons k l ih => exact (ih (stepL s k)).trans (stepL_k s k)
theorem runL_phase (s : List Int × List OpQ) (l : List Int) (h : ∀ o ∈ s.2, o.ph ≤ 2) : ∀ o ∈ (runL s l).2, o.ph ≤ 2 := by
  induction l generalizing s with
  | nil => exact h
  | cons k l ih => exact ih _ (stepL_phase s k h)
theorem pickQ_phase (n : Nat) (ops : List (Int × Int × Int × Int)) : ∀ o ∈ pickQ n ops, o.ph ≤ 2 := by
  intro o ho
  unfold pickQ at ho
  rw [List.mem_filterMap] at ho
  obtain ⟨op, _, ho⟩ := ho
  split at ho
  · cases ho
    exact Nat.zero_le _
  · cases ho
/-- behind the whole order all puts have ended -/
theorem lost_ends {n m : Nat} {ws0 ws xs : List Int} {os : List OpQ} {ops : List (Int × Int × Int × Int)} (hm : (pickQ n ops).length = m) (h : runL (ws0, pickQ n ops) (xs ++ tailTo n (pickQ n ops) m) = (ws, os)) {q : Nat} {o : OpQ} (ho : os[q]? = some o) (hk : o.k = 1) : o.ph = 2 := by
  rw [runL_append] at h
  have hl := runL_len (runL (ws0, pickQ n ops) xs) (tailTo n (pickQ n ops) m)
  rw [h] at hl
  have hl2 := runL_len (ws0, pickQ n ops) xs
  simp only at hl hl2
  have hq := lt_of_get ho
  exact tail_ends (n := n) (os0 := pickQ n ops) (runL (ws0, pickQ n ops) xs) (runL_k _ _) (runL_phase _ _ (pickQ_phase n ops)) stepL_phase m (by omega) q o (by omega) (by rw [h]; exact ho) hk
theorem didQ_put0 {ws : List Int} {o : OpQ} {i : Nat} {x : Int} (hk : o.k = 1) (hph : o.ph = 0) (hr : o.r = (i : Int)) (hx : ws[i]? = some x) : didQ ws o = (1, (i : Int), x, x, true) ∧ stepQW ws o = ws ∧ decide ((stepQ ws o).ph = 2) = false := by
  have hg : ws.getD o.r.toNat 0 = x := by rw [hr]; simp [List.getD, hx]
  refine ⟨by unfold didQ; rw [if_neg (by omega), if_neg (by omega), if_neg (by omega), hg, hr], by unfold stepQW; rw [if_neg (by omega)], ?_⟩
  unfold stepQ
  rw [if_neg (by omega), if_pos hk, if_pos hph]
  rfl
theorem didQ_miss {ws : List Int} {o : OpQ} {i : Nat} {x : Int} (hk : o.k = 1) (hph : o.ph = 1) (hr : o.r = (i : Int)) (hx : ws[i]? = some x) (hne : ¬ x = o.saw) : didQ ws o = (5, (i : Int), x, x, false) ∧ stepQW ws o = ws ∧ decide ((stepQ ws o).ph = 2) = false := by
  have hg : ws.getD o.r.toNat 0 = x := by rw [hr]; simp [List.getD, hx]
  refine ⟨by unfold didQ; rw [if_neg (by omega), if_pos ⟨hk, hph⟩, hg, if_neg hne, hr], by unfold stepQW; rw [hg, if_neg (by simp [hne])], ?_⟩
  unfold stepQ
  rw [if_neg (by omega), if_pos hk, if_neg (by omega), hg, if_neg hne]
  rfl
theorem didQ_hit {ws : List Int} {o : OpQ} {i : Nat} (hk : o.k = 1) (hph : o.ph = 1) (hr : o.r = (i : Int)) (hx : ws[i]? = some o.saw) : didQ ws o = (5, (i : Int), o.saw, afterW o.saw o.v, true) ∧ stepQW ws o = ws.set i (afterW o.saw o.v) ∧ decide ((stepQ ws o).ph = 2) = true ∧ (stepQ ws o).ph = 2 ∧ (stepQ ws o).xs = [afterW o.saw o.v] ∧ (stepQ ws o).cl = o.cl ∧ (stepQ ws o).k = 1 := by
  have hg : ws.getD o.r.toNat 0 = o.saw := by rw [hr]; simp [List.getD, hx]
  have hs : stepQ ws o = { o with ph := 2, xs := [afterW o.saw o.v] } := by unfold stepQ; rw [if_neg (by omega), if_pos hk, if_neg (by omega), hg, if_pos rfl]
  refine ⟨by unfold didQ; rw [if_neg (by omega), if_pos ⟨hk, hph⟩, hg, if_pos rfl, hr], by unfold stepQW; rw [hg, if_pos ⟨hk, hph, rfl⟩, hr]; rfl, ?_⟩
  rw [hs]
  exact ⟨rfl, rfl, rfl, rfl, hk⟩
end Go.Proofs.Ytdadgppbpomdoaa
