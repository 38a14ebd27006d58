/- THE WALKS of package gauges: load, swap, store. -/
import Derived.Test.YtcocegneegjcpaaGc
import Derived.Test.YtcocegneegjcpaaCf
import Derived.Deep.Cut
import Derived.Deep.CutRange
import Derived.Deep.DeepCutAuto
import Derived.Deep.RegionHeld3
namespace Go.Proofs.Ytcocegneegjcpaa
open Go Go.RowKit

def noDid : List Value := [.int .u8 0, .int .i64 0, .int .u64 0, .int .u64 0, .bool false]
/-- what a step's function leaves -/
def SteppedG (w : World) (bk bw bp : Nat) (T : Nat) (l : List Value) (v : Value) (e : Ending) (w' : World) : Prop := e = .returned v ∧ Words w' bk bw [(T : Int)] ∧ Row w' bp 115 l ∧ Part [bw, bp] w w'

section
variable {w : World} {bk bw : Nat} {T : Int}
theorem gdo_load (h : Words w bk bw [T]) :
    Calls Try.prog 81 #[.pointer (some ⟨bk, 0, none⟩), .agg #[.int .u8 1, .int .i64 0, .int .u64 0, .int .u64 0]] w (Acted w bk bw [T] (.tuple #[.agg #[.int .u8 1, .int .i64 0, .int .u64 T, .int .u64 T, .bool true], .int .i64 0])) := do_load h (i := 0) rfl
theorem gdo_store {y : Int} (h : Words w bk bw [T]) (hy : U64 y) :
    Calls Try.prog 81 #[.pointer (some ⟨bk, 0, none⟩), .agg #[.int .u8 2, .int .i64 0, .int .u64 0, .int .u64 y]] w (Acted w bk bw [y] (.tuple #[.agg #[.int .u8 2, .int .i64 0, .int .u64 T, .int .u64 y, .bool true], .int .i64 0])) := do_store h (i := 0) rfl hy
theorem gdo_hit {y : Int} (h : Words w bk bw [T]) (hy : U64 y) :
    Calls Try.prog 81 #[.pointer (some ⟨bk, 0, none⟩), .agg #[.int .u8 5, .int .i64 0, .int .u64 T, .int .u64 y]] w (Acted w bk bw [y] (.tuple #[.agg #[.int .u8 5, .int .i64 0, .int .u64 T, .int .u64 y, .bool true], .int .i64 0])) := do_hit h (i := 0) rfl hy
theorem gdo_miss {o y : Int} (h : Words w bk bw [T]) (hne : ¬ T = o) :
    Calls Try.prog 81 #[.pointer (some ⟨bk, 0, none⟩), .agg #[.int .u8 5, .int .i64 0, .int .u64 o, .int .u64 y]] w (Acted w bk bw [T] (.tuple #[.agg #[.int .u8 5, .int .i64 0, .int .u64 T, .int .u64 T, .bool false], .int .i64 0])) := do_miss h (i := 0) rfl hne
end

/-- behind the action: what it did lies in a block g of its own -/
structure MidG (w : World) (bk bw bp : Nat) (ws : List Int) (l did : List Value) (g : Nat) (wx : World) : Prop where
  lo : w.heap.size < g
  words : Words wx bk bw ws
  pend : Row wx bp 115 l
  did : Row wx g 45 did
  res : Row wx w.heap.size 45 noDid
  part : Part [bw] w wx
def MidGv (w : World) (bk bw bp : Nat) (ws : List Int) (l did : List Value) (v : Value) (wx : World) : Prop := ∃ g, v = .pointer (some ⟨g, 0, none⟩) ∧ MidG w bk bw bp ws l did g wx

section
variable {w w2 : World} {bk bw bp : Nat} {ws ws' : List Int} {l : List Value} {k c saw put : Int} {ok : Bool}
theorem midg_a (h : Words w bk bw ws) (hp : Row w bp 115 l) (hW : Words w2 bk bw ws') (hP : Part [bw] (w.alloc (.cells noDid.toArray 45)) w2) {did : List Value} :
    MidG w bk bw bp ws' l did w2.heap.size (w2.alloc (.cells did.toArray 45)) := by
  have hn : bp ∉ [bw] := by simpa using hp.ne h.row (by decide)
  have hb := h.row.lt
  have h0 : w.heap.size ∉ [bw] := by simp; omega
  have hr : Row w2 w.heap.size 45 noDid := Row.part (Row.new w _ _) hP h0
  exact ⟨hr.lt, hW.alloc _, (Row.part (hp.alloc _) hP hn).alloc _, Row.new _ _ _, hr.alloc _, (Part.trans (S' := [bw]) ((Part.refl [bw] w).alloc _) hP (by simp)).alloc _⟩
theorem midg_b (h : Words w bk bw ws) (hp : Row w bp 115 l) (hW : Words w2 bk bw ws') (hP : Part [bw] ((w.alloc (.cells noDid.toArray 45)).alloc (.cells noDid.toArray 45)) w2) :
    MidG w bk bw bp ws' l [.int .u8 k, .int .i64 c, .int .u64 saw, .int .u64 put, .bool ok] (w.heap.size + 1)
      (((((w2.setCell ⟨w.heap.size + 1, 0, none⟩ (.int .u8 k)).setCell ⟨w.heap.size + 1, 1, none⟩ (.int .i64 c)).setCell ⟨w.heap.size + 1, 2, none⟩ (.int .u64 saw)).setCell ⟨w.heap.size + 1, 3, none⟩ (.int .u64 put)).setCell ⟨w.heap.size + 1, 4, none⟩ (.bool ok)) := by
  have hn : bp ∉ [bw] := by simpa using hp.ne h.row (by decide)
  have hb := h.row.lt
  have hb' := h.head.lt
  have hpl := hp.lt
  have h0 : w.heap.size ∉ [bw] := by simp; omega
  have h1 : w.heap.size + 1 ∉ [bw] := by simp; omega
  have hr : Row w2 w.heap.size 45 noDid := Row.part ((Row.new w _ _).alloc _) hP h0
  have hr1 : Row w2 (w.heap.size + 1) 45 noDid := Row.part (Row.new2 w _ _ _ rfl) hP h1
  have hp2 := Row.part ((hp.alloc _).alloc _) hP hn
  have hE : Part [w.heap.size + 1] w2 (((((w2.setCell ⟨w.heap.size + 1, 0, none⟩ (.int .u8 k)).setCell ⟨w.heap.size + 1, 1, none⟩ (.int .i64 c)).setCell ⟨w.heap.size + 1, 2, none⟩ (.int .u64 saw)).setCell ⟨w.heap.size + 1, 3, none⟩ (.int .u64 put)).setCell ⟨w.heap.size + 1, 4, none⟩ (.bool ok)) := by
    repeat (refine Part.set ?_ (by simp) _)
    exact Part.refl _ _
  refine ⟨by omega, hW.part hE (by simp; omega) (by simp; omega), hp2.part hE (by simp; omega), ?_, hr.part hE (by simp), ?_⟩
  · exact Row.of_eq (((((hr1.set 0 _).set 1 _).set 2 _).set 3 _).set 4 _) rfl
  · refine Part.trans (S' := [w.heap.size + 1]) (Part.trans (S' := [bw]) (((Part.refl [bw] w).alloc _).alloc _) hP (by simp)) hE (fun q hq hm => ?_)
    simp at hm
    omega
theorem MidG.drew {did : List Value} {g : Nat} {wx : World} (h : MidG w bk bw bp ws l did g wx) : MidG w bk bw bp ws l did g wx.drew := ⟨h.lo, h.words.drew, h.pend, h.did, h.res, h.part.drew⟩
theorem MidG.drewN {did : List Value} {g : Nat} {wx : World} (h : MidG w bk bw bp ws l did g wx) (n : Nat) : MidG w bk bw bp ws l did g (wx.drewN n) := ⟨h.lo, h.words.drewN n, h.pend, h.did, h.res, h.part.drewN n⟩
theorem midg_end {wx wf : World} {l' l'' did : List Value} {g : Nat} (hM : MidG w bk bw bp ws l did g wx) (h : Words w bk bw ws') (_hp : bp < w.heap.size) (hE : Part [bp, w.heap.size] wx wf) (hr : Row wf bp 115 l') (he : l' = l'') :
    Words wf bk bw ws ∧ Row wf bp 115 l'' ∧ Part [bw, bp] w wf := by
  have h1 := h.head.lt
  have h2 := h.row.lt
  have h3 : bk ≠ bp := hM.words.head.ne hM.pend (by decide)
  have h4 : bw ≠ bp := hM.words.row.ne hM.pend (by decide)
  refine ⟨hM.words.part hE (by simp [h3]; omega) (by simp [h4]; omega), he ▸ hr, ?_⟩
  refine Part.trans (S' := [bp, w.heap.size]) (hM.part.mono (S' := [bw, bp]) (fun q _ hm => by simp at hm; simp [hm])) hE (fun q hq hm => ?_)
  simp at hm ⊢
  omega
theorem midg_end2 {wx w4 wf : World} {g : Nat} {l' did : List Value} (hM : MidG w bk bw bp ws l did g wx) (h : Words w bk bw ws') (hbp : bp < w.heap.size) (hR : Row w4 bp 115 l') (hP : Part [bp] wx w4) (hE : Part [w.heap.size] w4 wf) :
    Words wf bk bw ws ∧ Row wf bp 115 l' ∧ Part [bw, bp] w wf := by
  have hb := hM.res.lt
  have hE2 : Part [bp, w.heap.size] wx wf := by
    refine Part.trans (S' := [w.heap.size]) (Part.trans (S' := [bp]) (Part.refl [bp, w.heap.size] wx) hP (fun q _ hm => by simp at hm ⊢; omega)) hE (fun q _ hm => by simp at hm ⊢; omega)
  exact midg_end hM h hbp hE2 (hR.part hE (by simp; omega)) rfl
end
end Go.Proofs.Ytcocegneegjcpaa
