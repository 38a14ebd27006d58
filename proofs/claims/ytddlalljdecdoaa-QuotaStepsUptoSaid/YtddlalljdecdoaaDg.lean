/- FOR 'QuotaSteps': code's and document's operations between the code's step and the document's. -/
import Derived.Test.YtddlalljdecdoaaDe
import Derived.Test.YtddlalljdecdoaaEx
import Derived.Test.YtddlalljdecdoaaOw
namespace Go.Proofs.Ytddlalljdecdoaa
open Go Go.RowKit
set_option maxRecDepth 100000
/-- and the document's list of cells, apart from all of them -/
structure BothB (W : World) (bq bk bw : Nat) (ba : Int) (n : Nat) (ws : List Int) (xs : List DocP) (bs : List Nat) (vp vu : Value) (g : Nat) (wr : World) : Prop where
  all : AllB W bq bk bw ba n ws xs bs vp vu wr
  lies : Lies wr g ws
  glt : g < wr.heap.size
  gw : ¬ g = bw
  gb : g ∉ bs
  gu : ∀ r, vu.ownBlock = some r → ¬ g = r
section
variable {W wr w1 : World} {bq bk bw n g g' : Nat} {ba : Int} {ws ws' : List Int} {xs : List DocP} {bs : List Nat} {vp vu : Value}
theorem own_lt_ {w : World} {base m size : Nat} {e : TypeId} {v : Value} {l : List Value} (h : w.ownsRow base e size v m l) : ∀ r, v.ownBlock = some r → r < w.heap.size := fun r hr => by
  rcases h.2 with ⟨hv, _⟩ | ⟨g', _, cur, hv, _, hh, _⟩
  · subst hv; cases hr
  · subst hv; cases hr; exact lt_of_block hh
theorem BothB.start (h : AllB W bq bk bw ba n ws xs bs vp vu wr) (hg : wr.heap.size ≤ g) (hlt : g < w1.heap.size) (hL : Lies w1 g ws) (hb : Below wr.heap.size wr w1) : BothB W bq bk bw ba n ws xs bs vp vu g w1 :=
  ⟨h.on hb, hL, hlt, by have := h.many.one.quo.words.row.lt; omega, fun hm => by have := h.many.pends.lt g hm; omega, fun r hr => by have := own_lt_ h.un r hr; omega⟩
theorem BothB.on (h : BothB W bq bk bw ba n ws xs bs vp vu g wr) (hb : Below wr.heap.size wr w1) : BothB W bq bk bw ba n ws xs bs vp vu g w1 :=
  ⟨h.all.on hb, h.lies.below hb h.glt, Nat.lt_of_lt_of_le h.glt hb.size, h.gw, h.gb, h.gu⟩
end

def didSetB (w : World) (b : Nat) (d0 d1 d2 d3 : Int) (d4 : Bool) : World := (((((w).setCell ⟨b, 0, none⟩ (.int .u8 d0)).setCell ⟨b, 1, none⟩ (.int .i64 d1)).setCell ⟨b, 2, none⟩ (.int .u64 d2)).setCell ⟨b, 3, none⟩ (.int .u64 d3)).setCell ⟨b, 4, none⟩ (.bool d4)
theorem didSetB_part (w : World) (b : Nat) (d0 d1 d2 d3 : Int) (d4 : Bool) : Part [b] w (didSetB w b d0 d1 d2 d3 d4) := by
  unfold didSetB
  repeat (first | (with_reducible exact Part.refl _ _) | refine Part.set ?_ (by simp) _)
theorem didSetB_row {w : World} {b : Nat} {t : TypeId} {v0 v1 v2 v3 v4 : Value} (h : Row w b t [v0, v1, v2, v3, v4]) (d0 d1 d2 d3 : Int) (d4 : Bool) : Row (didSetB w b d0 d1 d2 d3 d4) b t [.int .u8 d0, .int .i64 d1, .int .u64 d2, .int .u64 d3, .bool d4] := by
  unfold didSetB
  exact ((((h.set 0 _).set 1 _).set 2 _).set 3 _).set 4 _
theorem did_fiveB (ba : Int) (ws : List Int) (o : OpB) : ∃ d0 d1 d2 d3 d4, didB ba ws o = (d0, d1, d2, d3, d4) := ⟨_, _, _, _, _, rfl⟩
theorem stepB_over {ba : Int} {ws : List Int} {o : OpB} (h : o.ph = 9) : stepB ba ws o = o ∧ stepBW ba ws o = ws ∧ didB ba ws o = (0, 0, 0, 0, false) := by
  refine ⟨?_, ?_, ?_⟩
  · unfold stepB; rw [if_pos h]
  · unfold stepBW; rw [if_pos h]
  · unfold didB; rw [if_pos h]
/-- the code has stepped, the document not yet -/
structure MidB (W : World) (bq bk bw : Nat) (ba : Int) (n : Nat) (wc : List Int) (oc : List OpB) (bs : List Nat) (vp vu : Value) (wd : List Int) (xs : List DocP) (g : Nat) (w : World) : Prop where
  many : ManyB W bq bk bw ba n wc oc bs vp w
  un : w.ownsRow W.heap.size 41 8 vu bs.length (unCells xs)
  lies : Lies w g wd
  glt : g < w.heap.size
  gw : ¬ g = bw
  gb : g ∉ bs
  gu : ∀ r, vu.ownBlock = some r → ¬ g = r
section
variable {W wr w1 w w3 : World} {bq bk bw n g g' : Nat} {ba : Int} {ws ws' wc wd : List Int} {xs : List DocP} {oc : List OpB} {bs : List Nat} {vp vu : Value}
theorem MidB.on (h : MidB W bq bk bw ba n wc oc bs vp vu wd xs g w) (hb : Below w.heap.size w w1) : MidB W bq bk bw ba n wc oc bs vp vu wd xs g w1 :=
  ⟨h.many.on hb, own_part h.un (Part.of_below hb (Nat.le_refl _) []) (by simp), h.lies.below hb h.glt, Nat.lt_of_lt_of_le h.glt hb.size, h.gw, h.gb, h.gu⟩
theorem MidB.alloc (h : MidB W bq bk bw ba n wc oc bs vp vu wd xs g w) (o : Obj) : MidB W bq bk bw ba n wc oc bs vp vu wd xs g (w.alloc o) := h.on ((Below.refl _ _).alloc (Nat.le_refl _) o)
theorem BothB.code {q b : Nat} {x : DocP} {e : Ending} (h : BothB W bq bk bw ba n ws xs bs vp vu g wr) (hx : xs[q]? = some x) (hb : bs[q]? = some b) (hs : SteppedO wr bq bk bw b ba ws x.1 e w1) :
    MidB W bq bk bw ba n (stepBW ba ws x.1) ((xs.map Prod.fst).set q (stepB ba ws x.1)) bs vp vu ws xs g w1 := by
  obtain ⟨h1, h2⟩ := h.all.step hx hb hs
  obtain ⟨_, _, _, hP⟩ := hs
  refine ⟨h1, h2, h.lies.part hP h.glt ?_, Nat.lt_of_lt_of_le h.glt hP.size, h.gw, h.gb, h.gu⟩
  simp only [List.mem_cons, List.mem_singleton, List.not_mem_nil, or_false, not_or]
  exact ⟨h.gw, fun e => h.gb (e ▸ List.mem_of_getElem? hb)⟩
/-- a box of five, none of theirs -/
structure BoxB (W : World) (b : Nat) (l : List Value) (w : World) : Prop where
  row : Row w b 46 l
  lo : W.heap.size ≤ b
theorem BoxB.on {b : Nat} {l : List Value} (h : BoxB W b l w) (hb : Below w.heap.size w w1) : BoxB W b l w1 := ⟨h.row.below hb h.row.lt, h.lo⟩
theorem BoxB.part {b : Nat} {l : List Value} {S : List Nat} (h : BoxB W b l w) (hP : Part S w w1) (hS : b ∉ S) : BoxB W b l w1 := ⟨h.row.part hP hS, h.lo⟩
theorem BoxB.new (h : MidB W bq bk bw ba n wc oc bs vp vu wd xs g w) (l : List Value) : BoxB W w.heap.size l (w.alloc (.cells l.toArray 46)) := ⟨Row.new w _ l, h.many.low.size⟩
/-- the ended one: nothing turns -/
theorem MidB.over {q : Nat} {x : DocP} (h : MidB W bq bk bw ba n (stepBW ba ws x.1) ((xs.map Prod.fst).set q (stepB ba ws x.1)) bs vp vu ws xs g w) (hx : xs[q]? = some x) (h9 : x.1.ph = 9) (hi : ∀ y, y ∈ xs → InvB y.1 y.2) (hs : ∀ y, y ∈ xs → StillB y.1) : BothB W bq bk bw ba n ws xs bs vp vu g w := by
  have hm := h.many
  rw [(stepB_over h9).1, (stepB_over h9).2.1] at hm
  have e : (xs.map Prod.fst).set q x.1 = xs.map Prod.fst := by
    apply List.ext_getElem?
    intro i
    by_cases hi : i = q
    · subst hi
      rw [List.getElem?_set_self (by rw [List.length_map]; exact lt_of_get hx), List.getElem?_map, hx]; rfl
    · rw [List.getElem?_set_ne (fun e => hi e.symm)]
  rw [e] at hm
  exact ⟨⟨hm, h.un, hi, hs⟩, h.lies, h.glt, h.gw, h.gb, h.gu⟩
/-- the document has stepped, and its record is stored -/
theorem MidB.next {q gu cu : Nat} {x : DocP} {u' : DocU} (h : MidB W bq bk bw ba n (stepBW ba ws x.1) ((xs.map Prod.fst).set q (stepB ba ws x.1)) bs vp (.slice (some ⟨gu, 0, none⟩) bs.length cu) ws xs g w) (hx : xs[q]? = some x) (hi : ∀ y, y ∈ xs → InvB y.1 y.2) (hs : ∀ y, y ∈ xs → StillB y.1)
    (hb : Below w.heap.size w w3) (hg : w.heap.size ≤ g') (hlt : g' < w3.heap.size) (hL : Lies w3 g' (stepBW ba ws x.1)) (hi' : InvB (stepB ba ws x.1) u') :
    BothB W bq bk bw ba n (stepBW ba ws x.1) (xs.set q (stepB ba ws x.1, u')) bs vp (.slice (some ⟨gu, 0, none⟩) bs.length cu) g' (undSet w3 gu (q * 8) (x.1, u')) := by
  have h1 := h.on hb
  have hP := undSet_part w3 gu (q * 8) (x.1, u')
  have hlo := own_from h1.un gu rfl
  have hgu : gu < w.heap.size := own_lt_ h.un gu rfl
  have ew : undSet w3 gu (q * 8) (x.1, u') = undSet w3 gu (q * 8) (stepB ba ws x.1, u') := by
    simp only [undSet, (stepB_same ba ws x.1).1, (stepB_same ba ws x.1).2]
  have b := h1.many.one.quo
  have hgr : ∀ {b : Nat} {t : TypeId} {l : List Value}, Row w3 b t l → 41 ≠ t → b ≠ gu := fun hr0 ht e => own_off h1.un hr0 ht gu rfl e.symm
  have hm : ManyB W bq bk bw ba n (stepBW ba ws x.1) ((xs.map Prod.fst).set q (stepB ba ws x.1)) bs vp (undSet w3 gu (q * 8) (x.1, u')) := by
    refine ⟨⟨b.part hP (by simpa using hgr b.head (by decide)) (by simpa using hgr b.words.head (by decide)) (by simpa using hgr b.words.row (by decide)), h1.many.one.len, h1.many.one.lo, h1.many.low.trans (hP.below h1.many.low.size (by simpa using hlo))⟩, own_part h1.many.ps hP (fun r hr => ?_), h1.many.pends.part hP (fun y hy => ?_)⟩
    · simp
      rintro rfl
      rcases own_apart h1.many.ps h1.un (by decide) with e | e
      · rw [hr] at e; cases e
      · rw [hr] at e; exact e rfl
    · obtain ⟨r, hr⟩ := List.getElem?_of_mem hy
      have := hgr (h1.many.pends.row r _ y (List.getElem?_eq_getElem (by rw [← h1.many.pends.len]; exact lt_of_get hr)) hr) (by decide)
      simpa using this
  have gne : ¬ g' = gu := by omega
  refine ⟨⟨?_, ?_, fun y hy => ?_, fun y hy => ?_⟩, hL.part hP hlt (by simpa using gne), Nat.lt_of_lt_of_le hlt hP.size, ?_, fun hm' => ?_, fun r hr => ?_⟩
  · rw [List.map_set]
    exact hm
  · rw [ew]
    exact un_stored h1.un hx
  · rcases List.mem_or_eq_of_mem_set hy with hy | rfl
    · exact hi y hy
    · exact hi'
  · rcases List.mem_or_eq_of_mem_set hy with hy | rfl
    · exact hs y hy
    · exact (hs x (List.mem_of_getElem? hx)).step
  · have := h.many.one.quo.words.row.lt
    omega
  · have := h.many.pends.lt g' hm'
    omega
  · cases hr
    exact gne
/-- what it did is stored, too -/
theorem BothB.did {b18 b20 : Nat} {l18 : List Value} {v0 v1 v2 v3 v4 : Value} {d0 d1 d2 d3 : Int} {d4 : Bool} (h : BothB W bq bk bw ba n ws xs bs vp vu g w) (h18 : BoxB W b18 l18 w) (h20 : BoxB W b20 [v0, v1, v2, v3, v4] w) (hne : b18 ≠ b20) (hg : ¬ g = b20) :
    BothB W bq bk bw ba n ws xs bs vp vu g (didSetB w b20 d0 d1 d2 d3 d4) ∧ BoxB W b18 l18 (didSetB w b20 d0 d1 d2 d3 d4) ∧ BoxB W b20 [.int .u8 d0, .int .i64 d1, .int .u64 d2, .int .u64 d3, .bool d4] (didSetB w b20 d0 d1 d2 d3 d4) := by
  have hP := didSetB_part w b20 d0 d1 d2 d3 d4
  exact ⟨⟨⟨h.all.many.off h20.row h20.lo hP (by decide) (by decide) (by decide) (by decide) (by decide), own_part h.all.un hP (fun r hr => by simpa using own_off h.all.un h20.row (by decide) r hr), h.all.inv, h.all.still⟩, h.lies.part hP h.glt (by simpa using hg), Nat.lt_of_lt_of_le h.glt hP.size, h.gw, h.gb, h.gu⟩, h18.part hP (by simpa using hne), ⟨didSetB_row h20.row d0 d1 d2 d3 d4, h20.lo⟩⟩
theorem next_didB {q gu cu b18 b20 : Nat} {x : DocP} {u' : DocU} {l18 : List Value} {v0 v1 v2 v3 v4 : Value} {d0 d1 d2 d3 : Int} {d4 : Bool} (h : MidB W bq bk bw ba n (stepBW ba ws x.1) ((xs.map Prod.fst).set q (stepB ba ws x.1)) bs vp (.slice (some ⟨gu, 0, none⟩) bs.length cu) ws xs g w) (hx : xs[q]? = some x) (hi : ∀ y, y ∈ xs → InvB y.1 y.2) (hs : ∀ y, y ∈ xs → StillB y.1)
    (hb : Below w.heap.size w w3) (hg : w.heap.size ≤ g') (hlt : g' < w3.heap.size) (hL : Lies w3 g' (stepBW ba ws x.1)) (hi' : InvB (stepB ba ws x.1) u') (h18 : BoxB W b18 l18 w) (h20 : BoxB W b20 [v0, v1, v2, v3, v4] w) (hne : b18 ≠ b20) :
    BothB W bq bk bw ba n (stepBW ba ws x.1) (xs.set q (stepB ba ws x.1, u')) bs vp (.slice (some ⟨gu, 0, none⟩) bs.length cu) g' (didSetB (undSet w3 gu (q * 8) (x.1, u')) b20 d0 d1 d2 d3 d4) ∧ BoxB W b18 l18 (didSetB (undSet w3 gu (q * 8) (x.1, u')) b20 d0 d1 d2 d3 d4) ∧ BoxB W b20 [.int .u8 d0, .int .i64 d1, .int .u64 d2, .int .u64 d3, .bool d4] (didSetB (undSet w3 gu (q * 8) (x.1, u')) b20 d0 d1 d2 d3 d4) := by
  have hP := undSet_part w3 gu (q * 8) (x.1, u')
  have g18 : b18 ≠ gu := fun e => own_off h.un h18.row (by decide) gu rfl e.symm
  have g20 : b20 ≠ gu := fun e => own_off h.un h20.row (by decide) gu rfl e.symm
  have hlt20 := h20.row.lt
  exact (h.next hx hi hs hb hg hlt hL hi').did ((h18.on hb).part hP (by simpa using g18)) ((h20.on hb).part hP (by simpa using g20)) hne (by omega)
end
end Go.Proofs.Ytddlalljdecdoaa
