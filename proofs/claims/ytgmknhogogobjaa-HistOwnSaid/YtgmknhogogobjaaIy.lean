/- THE WALKS of package hist: snapshots in boxes of their own, with lists of their own. -/
import Derived.Test.YtgmknhogogobjaaIx
import Derived.Deep.RegionLaw
import Derived.Deep.AppendLies
import Derived.Laws.MakeOwn
import Derived.Test.YtgmknhogogobjaaEy
namespace Go.Proofs.Ytgmknhogogobjaa
open Go Go.RowKit
set_option maxRecDepth 100000
set_option maxHeartbeats 1600000
/-- a snapshot in its box, with its list -/
structure ItemH where
  b : Nat
  c : Int
  su : Int
  le : Int
  gr : Int
  v : Value
  n : Nat
  xs : List Int
structure ItemOk (W : World) (i : ItemH) (wr : World) : Prop where
  row : Row wr i.b 44 [.int .u64 i.c, .int .u64 i.su, .int .i64 i.le, .int .i64 i.gr, i.v]
  own : wr.ownsRow W.heap.size 38 1 i.v i.n (u64s i.xs)
  lo : W.heap.size ≤ i.b
structure OwnAll (W : World) (bh bk bw : Nat) (l h d : Int) (m : Nat) (ws : List Int) (is : List ItemH) (wr : World) : Prop where
  hist : HistM wr bh bk bw l h d m ws
  low : Below W.heap.size W wr
  bwlo : W.heap.size ≤ bw
  ok : ∀ i, i ∈ is → ItemOk W i wr
  apart : ∀ (p q : Nat) (i j : ItemH), p ≠ q → is[p]? = some i → is[q]? = some j → i.b ≠ j.b ∧ ∀ z, i.v.ownBlock = some z → j.v.ownBlock ≠ some z
section
variable {W wr w0 w1 : World} {bh bk bw m : Nat} {l h d : Int} {ws ws' : List Int} {is : List ItemH} {i i' : ItemH}
theorem ItemOk.on (hi : ItemOk W i wr) (hb : Below wr.heap.size wr w1) : ItemOk W i w1 := ⟨hi.row.below hb hi.row.lt, own_part hi.own (Part.of_below hb (Nat.le_refl _) []) (by simp), hi.lo⟩
theorem OwnAll.on (hO : OwnAll W bh bk bw l h d m ws is wr) (hb : Below wr.heap.size wr w1) : OwnAll W bh bk bw l h d m ws is w1 :=
  ⟨hO.hist.on hb, hO.low.trans (hb.mono hO.low.size), hO.bwlo, fun i hi => (hO.ok i hi).on hb, hO.apart⟩
theorem OwnAll.hist_ (hO : OwnAll W bh bk bw l h d m ws is wr) (hh : HistM w1 bh bk bw l h d m ws') (hP : Part [bw] wr w1) : OwnAll W bh bk bw l h d m ws' is w1 :=
  ⟨hh, hO.low.trans (hP.below hO.low.size (by simpa using hO.bwlo)), hO.bwlo, fun i hi => ⟨(hO.ok i hi).row.part hP (by simpa using (hO.ok i hi).row.ne hO.hist.words.row (by decide)), own_part (hO.ok i hi).own hP (fun q hq => by simpa using own_off (hO.ok i hi).own hO.hist.words.row (by decide) q hq), (hO.ok i hi).lo⟩, hO.apart⟩
theorem own_blk {w : World} {base n size : Nat} {e : TypeId} {v : Value} {xs : List Value} (h : w.ownsRow base e size v n xs) : ∀ q, v.ownBlock = some q → q < w.heap.size := by
  intro q hq
  rcases h.2 with ⟨rfl, _⟩ | ⟨g, _, cur, rfl, _, hh, _⟩
  · cases hq
  · cases hq; exact lt_of_block hh
/-- one more, newer than w0 -/
theorem OwnAll.push (h0 : OwnAll W bh bk bw l h d m ws is w0) (h1 : OwnAll W bh bk bw l h d m ws' is wr) (hr : Row wr i.b 44 [.int .u64 i.c, .int .u64 i.su, .int .i64 i.le, .int .i64 i.gr, i.v]) (ho : wr.ownsRow w0.heap.size 38 1 i.v i.n (u64s i.xs)) (hb : w0.heap.size ≤ i.b) : OwnAll W bh bk bw l h d m ws' (is ++ [i]) wr := by
  have hlo := h0.low.size
  have hnew : ∀ j, j ∈ is → j.b ≠ i.b ∧ ∀ z, j.v.ownBlock = some z → i.v.ownBlock ≠ some z := fun j hj => ⟨by have := (h0.ok j hj).row.lt; omega, fun z hz hz' => by
    have h2 := own_blk (h0.ok j hj).own z hz
    have h3 := own_from ho z hz'
    omega⟩
  refine ⟨h1.hist, h1.low, h1.bwlo, fun j hj => ?_, fun p q x y hpq hx hy => ?_⟩
  · rcases List.mem_append.1 hj with hj | hj
    · exact h1.ok j hj
    · rw [List.mem_singleton.1 hj]
      exact ⟨hr, ownsRow_base ho hlo, Nat.le_trans hlo hb⟩
  · have hp := lt_of_get hx
    have hq := lt_of_get hy
    simp only [List.length_append, List.length_singleton] at hp hq
    by_cases ep : p < is.length
    · rw [List.getElem?_append_left ep] at hx
      by_cases eq_ : q < is.length
      · rw [List.getElem?_append_left eq_] at hy
        exact h1.apart p q x y hpq hx hy
      · obtain rfl : q = is.length := by omega
        rw [List.getElem?_append_right (Nat.le_refl _), Nat.sub_self] at hy
        simp at hy
        subst hy
        exact hnew x (List.mem_of_getElem? hx)
    · obtain rfl : p = is.length := by omega
      rw [List.getElem?_append_right (Nat.le_refl _), Nat.sub_self] at hx
      simp at hx
      subst hx
      rw [List.getElem?_append_left (by omega)] at hy
      obtain ⟨a1, a2⟩ := hnew y (List.mem_of_getElem? hy)
      exact ⟨fun e => a1 e.symm, fun z hz hz' => a2 z hz' hz⟩
theorem apart_set {k : Nat} (ha : ∀ (p q : Nat) (i j : ItemH), p ≠ q → is[p]? = some i → is[q]? = some j → i.b ≠ j.b ∧ ∀ z, i.v.ownBlock = some z → j.v.ownBlock ≠ some z) (hk : k < is.length)
    (hn : ∀ (q : Nat) (j : ItemH), q ≠ k → is[q]? = some j → i'.b ≠ j.b ∧ ∀ z, i'.v.ownBlock = some z → j.v.ownBlock ≠ some z) :
    ∀ (p q : Nat) (i j : ItemH), p ≠ q → (is.set k i')[p]? = some i → (is.set k i')[q]? = some j → i.b ≠ j.b ∧ ∀ z, i.v.ownBlock = some z → j.v.ownBlock ≠ some z := fun p q x y hpq hx hy => by
  by_cases ep : p = k
  · subst ep
    rw [List.getElem?_set_self hk] at hx
    cases hx
    rw [List.getElem?_set_ne hpq] at hy
    exact hn q y (fun e => hpq e.symm) hy
  · rw [List.getElem?_set_ne (fun e => ep e.symm)] at hx
    by_cases eq_ : q = k
    · subst eq_
      rw [List.getElem?_set_self hk] at hy
      cases hy
      obtain ⟨a1, a2⟩ := hn p x ep hx
      exact ⟨fun e => a1 e.symm, fun z hz hz' => a2 z hz' hz⟩
    · rw [List.getElem?_set_ne (fun e => eq_ e.symm)] at hy
      exact ha p q x y hpq hx hy
/-- a number is stored into one's list -/
theorem OwnAll.store {k j g c : Nat} {x : Int} (hO : OwnAll W bh bk bw l h d m ws is wr) (hi : is[k]? = some i) (hv : i.v = .slice (some ⟨g, 0, none⟩) i.n c) :
    OwnAll W bh bk bw l h d m ws (is.set k { i with xs := i.xs.set j x }) (wr.setCell ⟨g, j, none⟩ (.int .u64 x)) := by
  have hm := List.mem_of_getElem? hi
  have hok := hO.ok i hm
  have hown := hok.own
  rw [hv] at hown
  obtain ⟨lx, hrx, _⟩ := own_row hown
  have hg : i.v.ownBlock = some g := by rw [hv]; rfl
  have hglo := own_from hown g rfl
  have hP : Part [g] wr (wr.setCell ⟨g, j, none⟩ (.int .u64 x)) := (Part.refl [g] wr).set (by simp) _
  refine ⟨⟨hO.hist.head.part hP (by simpa using hO.hist.head.ne hrx (by decide)), hO.hist.words.part hP (by simpa using hO.hist.words.head.ne hrx (by decide)) (by simpa using hO.hist.words.row.ne hrx (by decide)), hO.hist.len, hO.hist.few⟩, hO.low.setCell hglo _, hO.bwlo, fun y hy => ?_, apart_set hO.apart (lt_of_get hi) (fun q y hq hy => hO.apart k q i y (fun e => hq e.symm) hi hy)⟩
  obtain ⟨p, hp⟩ := List.getElem?_of_mem hy
  by_cases e : p = k
  · subst e
    rw [List.getElem?_set_self (lt_of_get hi)] at hp
    cases hp
    refine ⟨hok.row.part hP (by simpa using hok.row.ne hrx (by decide)), ?_, hok.lo⟩
    have := (hown.stored j (.int .u64 x)).1
    rw [u64s_set] at this
    rw [hv]
    exact this
  · rw [List.getElem?_set_ne (fun h => e h.symm)] at hp
    have hoy := hO.ok y (List.mem_of_getElem? hp)
    exact ⟨hoy.row.part hP (by simpa using hoy.row.ne hrx (by decide)), own_part hoy.own hP (fun q hq => by simp; rintro rfl; exact (hO.apart k p i y (fun h => e h.symm) hi hp).2 q hg hq), hoy.lo⟩
/-- one's list is grown, its box has the new one -/
theorem OwnAll.grow {k g' n' c' : Nat} {xs' : List Int} {ob : Obj} (hO : OwnAll W bh bk bw l h d m ws is wr) (hi : is[k]? = some i) (hown : w1.ownsRow W.heap.size 38 1 (.slice (some ⟨g', 0, none⟩) n' c') n' (u64s xs')) (hg : (wr.alloc ob).grownBy w1 i.v.ownBlock) (hat : i.v.ownBlock = some g' ∨ g' = (wr.alloc ob).heap.size) :
    OwnAll W bh bk bw l h d m ws (is.set k { i with v := .slice (some ⟨g', 0, none⟩) n' c', n := n', xs := xs' }) (w1.setCell ⟨i.b, 4, none⟩ (.slice (some ⟨g', 0, none⟩) n' c')) := by
  have hA := hO.on ((Below.refl _ _).alloc (Nat.le_refl _) ob)
  have hm := List.mem_of_getElem? hi
  have hok := hA.ok i hm
  have nm : ∀ {b : Nat} {t : TypeId} {lv : List Value}, Row (wr.alloc ob) b t lv → 38 ≠ t → some b ≠ i.v.ownBlock := fun hr ht => own_not_in hok.own hr ht
  have hrow1 := hok.row.grown hg (nm hok.row (by decide))
  have hP : Part [i.b] w1 (w1.setCell ⟨i.b, 4, none⟩ (.slice (some ⟨g', 0, none⟩) n' c')) := (Part.refl [i.b] w1).set (by simp) _
  have hh1 := hA.hist.head.grown hg (nm hA.hist.head (by decide))
  have hh2 := hA.hist.words.head.grown hg (nm hA.hist.words.head (by decide))
  have hh3 := hA.hist.words.row.grown hg (nm hA.hist.words.row (by decide))
  have hne : ∀ (p : Nat) (y : ItemH), p ≠ k → is[p]? = some y → y.b ≠ i.b ∧ (∀ z, y.v.ownBlock = some z → z ≠ g') := fun p y hpk hy => by
    obtain ⟨a1, a2⟩ := hA.apart k p i y (fun e => hpk e.symm) hi hy
    refine ⟨fun e => a1 e.symm, fun z hz e => ?_⟩
    rcases hat with hat | hat
    · exact a2 g' hat (e ▸ hz)
    · have := own_blk (hA.ok y (List.mem_of_getElem? hy)).own z hz
      omega
  refine ⟨⟨hh1.part hP (by simpa using hh1.ne hrow1 (by decide)), ⟨hh2.part hP (by simpa using hh2.ne hrow1 (by decide)), hh3.part hP (by simpa using hh3.ne hrow1 (by decide)), hA.hist.words.few, hA.hist.words.ok⟩, hA.hist.len, hA.hist.few⟩, (hA.low.grown hg hA.low.size (own_from hok.own)).setCell hok.lo _, hA.bwlo, fun y hy => ?_, apart_set hA.apart (lt_of_get hi) (fun q y hq hy => ?_)⟩
  · obtain ⟨p, hp⟩ := List.getElem?_of_mem hy
    by_cases e : p = k
    · subst e
      rw [List.getElem?_set_self (lt_of_get hi)] at hp
      cases hp
      exact ⟨Row.of_eq (hrow1.set 4 _) rfl, own_part hown hP (fun q hq => by simpa using own_off hown hrow1 (by decide) q hq), hok.lo⟩
    · rw [List.getElem?_set_ne (fun h => e h.symm)] at hp
      have hoy := hA.ok y (List.mem_of_getElem? hp)
      have hy1 := hoy.row.grown hg (nm hoy.row (by decide))
      have hoy1 := hoy.own.kept hg (by
        cases hz : y.v.ownBlock with
        | none => exact .inl rfl
        | some z => exact .inr (fun e' => (hA.apart k p i y (fun h => e h.symm) hi hp).2 z e'.symm hz))
      exact ⟨hy1.part hP (by simpa using (hne p y e hp).1), own_part hoy1 hP (fun q hq => by simpa using own_off hoy1 hrow1 (by decide) q hq), hoy.lo⟩
  · obtain ⟨a1, a2⟩ := hne q y hq hy
    exact ⟨fun e => a1 e.symm, fun z hz hz' => by cases hz; exact a2 g' hz' rfl⟩
end
end Go.Proofs.Ytgmknhogogobjaa
