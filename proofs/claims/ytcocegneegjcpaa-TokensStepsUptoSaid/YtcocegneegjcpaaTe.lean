/- THE WALKS of package tokens: swap, peek. -/
import Derived.Test.YtcocegneegjcpaaTd
import Derived.Deep.Cut
import Derived.Deep.CutRange
import Derived.Deep.DeepCutAuto
import Derived.Deep.RegionHeld3
namespace Go.Proofs.Ytcocegneegjcpaa
open Go Go.RowKit

/-- behind the action: what it did lies in a block g of its own -/
structure MidS (w : World) (bk bw bp : Nat) (ws : List Int) (l did : List Value) (g : Nat) (wx : World) : Prop where
  lo : w.heap.size < g
  words : Words wx bk bw ws
  pend : Row wx bp 140 l
  did : Row wx g 45 did
  res : Row wx w.heap.size 45 noDid
  part : Part [bw] w wx
def MidG (w : World) (bk bw bp : Nat) (ws : List Int) (l did : List Value) (v : Value) (wx : World) : Prop := ∃ g, v = .pointer (some ⟨g, 0, none⟩) ∧ MidS w bk bw bp ws l did g wx

section
variable {w w2 : World} {bk bw bp : Nat} {ws ws' : List Int} {l : List Value} {k c saw put : Int} {ok : Bool}
theorem mids_a (h : Words w bk bw ws) (hp : Row w bp 140 l) (hW : Words w2 bk bw ws') (hP : Part [bw] (w.alloc (.cells noDid.toArray 45)).drew w2) {did : List Value} :
    MidS w bk bw bp ws' l did w2.heap.size (w2.alloc (.cells did.toArray 45)) := by
  have hn : bp ∉ [bw] := by simpa using hp.ne h.row (by decide)
  have hb := h.row.lt
  have h0 : w.heap.size ∉ [bw] := by simp; omega
  have hr : Row w2 w.heap.size 45 noDid := Row.part (Row.new w _ _).drew hP h0
  exact ⟨hr.lt, hW.alloc _, (Row.part (hp.alloc _).drew hP hn).alloc _, Row.new _ _ _, hr.alloc _, (Part.trans (S' := [bw]) (((Part.refl [bw] w).alloc _).drew) hP (by simp)).alloc _⟩
theorem mids_b (h : Words w bk bw ws) (hp : Row w bp 140 l) (hW : Words w2 bk bw ws') (hP : Part [bw] ((w.alloc (.cells noDid.toArray 45)).alloc (.cells noDid.toArray 45)).drew w2) :
    MidS w bk bw bp ws' l [.int .u8 k, .int .i64 c, .int .u64 saw, .int .u64 put, .bool ok] (w.heap.size + 1)
      (((((w2.setCell ⟨w.heap.size + 1, 0, none⟩ (.int .u8 k)).setCell ⟨w.heap.size + 1, 1, none⟩ (.int .i64 c)).setCell ⟨w.heap.size + 1, 2, none⟩ (.int .u64 saw)).setCell ⟨w.heap.size + 1, 3, none⟩ (.int .u64 put)).setCell ⟨w.heap.size + 1, 4, none⟩ (.bool ok)) := by
  have hn : bp ∉ [bw] := by simpa using hp.ne h.row (by decide)
  have hb := h.row.lt
  have hb' := h.head.lt
  have hpl := hp.lt
  have h0 : w.heap.size ∉ [bw] := by simp; omega
  have h1 : w.heap.size + 1 ∉ [bw] := by simp; omega
  have hr : Row w2 w.heap.size 45 noDid := Row.part ((Row.new w _ _).alloc _).drew hP h0
  have hr1 : Row w2 (w.heap.size + 1) 45 noDid := Row.part (Row.new2 w _ _ _ rfl).drew hP h1
  have hp2 := Row.part ((hp.alloc _).alloc _).drew hP hn
  have hE : Part [w.heap.size + 1] w2 (((((w2.setCell ⟨w.heap.size + 1, 0, none⟩ (.int .u8 k)).setCell ⟨w.heap.size + 1, 1, none⟩ (.int .i64 c)).setCell ⟨w.heap.size + 1, 2, none⟩ (.int .u64 saw)).setCell ⟨w.heap.size + 1, 3, none⟩ (.int .u64 put)).setCell ⟨w.heap.size + 1, 4, none⟩ (.bool ok)) := by
    repeat (refine Part.set ?_ (by simp) _)
    exact Part.refl _ _
  refine ⟨by omega, hW.part hE (by simp; omega) (by simp; omega), hp2.part hE (by simp; omega), ?_, hr.part hE (by simp), ?_⟩
  · exact Row.of_eq (((((hr1.set 0 _).set 1 _).set 2 _).set 3 _).set 4 _) rfl
  · refine Part.trans (S' := [w.heap.size + 1]) (Part.trans (S' := [bw]) ((((Part.refl [bw] w).alloc _).alloc _).drew) hP (by simp)) hE (fun q hq hm => ?_)
    simp at hm
    omega
theorem MidS.drew {did : List Value} {g : Nat} {wx : World} (h : MidS w bk bw bp ws l did g wx) : MidS w bk bw bp ws l did g wx.drew := ⟨h.lo, h.words.drew, h.pend, h.did, h.res, h.part.drew⟩
theorem mids_end {wx wf : World} {l' l'' did : List Value} {g : Nat} (hM : MidS w bk bw bp ws l did g wx) (h : Words w bk bw ws') (_hp : bp < w.heap.size) (hE : Part [bp, w.heap.size] wx wf) (hr : Row wf bp 140 l') (he : l' = l'') :
    Words wf bk bw ws ∧ Row wf bp 140 l'' ∧ Part [bw, bp] w wf := by
  have h1 := h.head.lt
  have h2 := h.row.lt
  have h3 : bk ≠ bp := hM.words.head.ne hM.pend (by decide)
  have h4 : bw ≠ bp := hM.words.row.ne hM.pend (by decide)
  refine ⟨hM.words.part hE (by simp [h3]; omega) (by simp [h4]; omega), he ▸ hr, ?_⟩
  refine Part.trans (S' := [bp, w.heap.size]) (hM.part.mono (S' := [bw, bp]) (fun q _ hm => by simp at hm; simp [hm])) hE (fun q hq hm => ?_)
  simp at hm ⊢
  omega
end

theorem mids_end2 {wx w4 wf : World} {w : World} {bk bw bp g : Nat} {ws ws' : List Int} {l l' did : List Value} (hM : MidS w bk bw bp ws l did g wx) (h : Words w bk bw ws') (hbp : bp < w.heap.size) (hR : Row w4 bp 140 l') (hP : Part [bp] wx w4) (hE : Part [w.heap.size] w4 wf) :
    Words wf bk bw ws ∧ Row wf bp 140 l' ∧ Part [bw, bp] w wf := by
  have hb := hM.res.lt
  have hE2 : Part [bp, w.heap.size] wx wf := by
    refine Part.trans (S' := [w.heap.size]) (Part.trans (S' := [bp]) (Part.refl [bp, w.heap.size] wx) hP (fun q _ hm => by simp at hm ⊢; omega)) hE (fun q _ hm => by simp at hm ⊢; omega)
  exact mids_end hM h hbp hE2 (hR.part hE (by simp; omega)) rfl

end Go.Proofs.Ytcocegneegjcpaa
