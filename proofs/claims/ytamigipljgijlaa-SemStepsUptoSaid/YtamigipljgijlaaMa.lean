/- THE WALKS of package sem: act, load, served, end: what comes next is a function with its boxes. -/
import Derived.Test.YtamigipljgijlaaCf
namespace Go.Proofs.Ytamigipljgijlaa
open Go Go.RowKit
set_option maxRecDepth 100000
/-- the pending of a semaphore at bs: what comes next, the answer, the error -/
def pendM (bs : Nat) (nx : Value) (an wy : Int) : List Value := [.pointer (some ⟨bs, 0, none⟩), nx, .int .u64 an, .int .i64 wy]
/-- next: an action, and who is handed what it did -/
def ActM (w : World) (bp : Nat) (nx : Value) (k c o n : Int) (t : Value) : Prop := ∃ b1 b2 b3, nx = .func (.func 43) #[] #[.pointer (some ⟨b1, 0, none⟩), .pointer (some ⟨b2, 0, none⟩), .pointer (some ⟨b3, 0, none⟩)]
  ∧ Row w b1 35 [.pointer (some ⟨bp, 0, none⟩)] ∧ Row w b2 79 [.int .u8 k, .int .i64 c, .int .u64 o, .int .u64 n] ∧ Row w b3 81 [t]
theorem Row.at_ {w : World} {t : TypeId} {v : List Value} {n : Nat} (hn : n = w.heap.size) : Row (w.alloc (.cells v.toArray t)) n t v := by
  subst hn
  exact Row.new w t v
theorem act_any {w : World} {bp bs : Nat} {nx : Value} {an wy k c o n : Int} {f : Nat} {cs : Array Value} (hp : Row w bp 69 (pendM bs nx an wy)) :
    Calls Try.prog 33 #[.pointer (some ⟨bp, 0, none⟩), .agg #[.int .u8 k, .int .i64 c, .int .u64 o, .int .u64 n], .func (.func f) #[] cs] w fun e w' => e = .returned (.tuple #[]) ∧ ∃ nx', Row w' bp 69 (pendM bs nx' an wy) ∧ ActM w' bp nx' k c o n (.func (.func f) #[] cs) ∧ Part [bp] w w' := by
  have hlt := hp.lt
  have hl1 : bp < w.heap.size + 1 := by omega
  have hl2 : bp < w.heap.size + 1 + 1 := by omega
  have hf := hp.free
  have hc : w.cell? ⟨bp, 1, none⟩ = some nx := hp.cell 1
  have HP := Lib.hid hp
  clear hp
  go_enter Try.func33, Try.ntmps33
  go_wp2
  go_end0
  refine ⟨rfl, _, ?_, ⟨w.heap.size, w.heap.size + 1, w.heap.size + 1 + 1, rfl, ?_, ?_, ?_⟩, ?_⟩
  · exact (((HP.out.set 1 _).alloc _).alloc _).alloc _
  · exact ((Row.at_ (w := w.setCell _ _) (by simp)).alloc _).alloc _
  · exact (Row.at_ (w := (w.setCell _ _).alloc _) (by simp)).alloc _
  · exact Row.at_ (w := ((w.setCell _ _).alloc _).alloc _) (by simp)
  · exact (((Part.set (Part.refl _ w) (by simp) _).alloc _).alloc _).alloc _
theorem served_any {w : World} {bs : Nat} {cv : Value} {pl g : Int} (hp : Row w bs 66 [cv, .int .u64 pl]) :
    Calls Try.prog 38 #[.pointer (some ⟨bs, 0, none⟩), .int .u64 g] w fun e w' => e = .returned (.int .u64 (IntKind.u64.wrap (pl + g))) ∧ w = w' := by
  have hc : w.cell? ⟨bs, 1, none⟩ = some (.int .u64 pl) := hp.cell 1
  clear hp
  go_enter Try.func38, Try.ntmps38
  go_wp2
  all_goals
    go_ret
    exact ⟨rfl, rfl⟩
theorem end_any {w : World} {bp bs : Nat} {nx : Value} {an wy an' wy' : Int} (hp : Row w bp 69 (pendM bs nx an wy)) :
    Calls Try.prog 39 #[.pointer (some ⟨bp, 0, none⟩), .int .u64 an', .int .i64 wy'] w fun e w' => e = .returned (.tuple #[]) ∧ Row w' bp 69 (pendM bs .nilFunc an' wy') ∧ Part [bp] w w' := by
  have hlt := hp.lt
  have hf := hp.free
  have c1 : w.cell? ⟨bp, 1, none⟩ = some nx := hp.cell 1
  have c2 : w.cell? ⟨bp, 2, none⟩ = some (.int .u64 an) := hp.cell 2
  have c3 : w.cell? ⟨bp, 3, none⟩ = some (.int .i64 wy) := hp.cell 3
  have HP := Lib.hid hp
  clear hp
  go_enter Try.func39, Try.ntmps39
  go_wp2
  go_end0
  refine ⟨rfl, ?_, ?_⟩
  · exact ((HP.out.set 2 _).set 3 _).set 1 _
  · exact Part.set (Part.set (Part.set (Part.refl _ w) (by simp) _) (by simp) _) (by simp) _
end Go.Proofs.Ytamigipljgijlaa
