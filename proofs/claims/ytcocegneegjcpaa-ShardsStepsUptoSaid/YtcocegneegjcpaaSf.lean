/- THE WALKS of package shards: operations that are stepped: right, Start, Done, Answer. -/
import Derived.Test.YtcocegneegjcpaaSc
import Derived.WalkLawsBesides
import Derived.WalkSpells
namespace Go.Proofs.Ytcocegneegjcpaa
open Go Go.RowKit

/-- the seven cells of a pending operation -/
def pendL (bk : Nat) (k c y : Int) (nx : Value) (s : Int) : List Value := [.pointer (some ⟨bk, 0, none⟩), .int .u8 k, .int .i64 c, .int .u64 0, .int .u64 y, nx, .int .u64 s]
def fnV (f : FuncId) : Value := .func (.func f) #[] #[]
theorem pend_cells {w : World} {bp bk : Nat} {k c y s : Int} {nx : Value} (h : Row w bp 126 (pendL bk k c y nx s)) :
    w.cell? ⟨bp, 0, none⟩ = some (.pointer (some ⟨bk, 0, none⟩)) ∧ w.cell? ⟨bp, 1, none⟩ = some (.int .u8 k) ∧ w.cell? ⟨bp, 2, none⟩ = some (.int .i64 c) ∧ w.cell? ⟨bp, 3, none⟩ = some (.int .u64 0) ∧
    w.cell? ⟨bp, 4, none⟩ = some (.int .u64 y) ∧ w.cell? ⟨bp, 5, none⟩ = some nx ∧ w.cell? ⟨bp, 6, none⟩ = some (.int .u64 s) :=
  ⟨h.cell 0, h.cell 1, h.cell 2, h.cell 3, h.cell 4, h.cell 5, h.cell 6⟩

theorem eql_nil_nil (w : World) : (binOp BinOp.eql 124 Value.nilFunc Value.nilFunc).run Try.prog w = .ok (.bool true) w := by kernel_rfl
theorem neq_nil_nil (w : World) : (binOp BinOp.neq 124 Value.nilFunc Value.nilFunc).run Try.prog w = .ok (.bool false) w := by kernel_rfl
theorem eql_fn_nil (f : FuncId) (w : World) : (binOp BinOp.eql 124 (.func (.func f) #[] #[]) Value.nilFunc).run Try.prog w = .ok (.bool false) w := by kernel_rfl
theorem neq_fn_nil (f : FuncId) (w : World) : (binOp BinOp.neq 124 (.func (.func f) #[] #[]) Value.nilFunc).run Try.prog w = .ok (.bool true) w := by kernel_rfl
set_option maxRecDepth 100000
theorem sdone_no {w : World} {bp bk : Nat} {k c y s : Int} {f : FuncId} (h : Row w bp 126 (pendL bk k c y (fnV f) s)) :
    Calls Try.prog 29 #[.pointer (some ⟨bp, 0, none⟩)] w fun e w' => e = .returned (.bool false) ∧ w = w' := by
  obtain ⟨c0, c1, c2, c3, c4, c5, c6⟩ := pend_cells h
  unfold fnV at c5
  have q1 := eql_nil_nil
  have q2 := neq_nil_nil
  have q3 := eql_fn_nil
  have q4 := neq_fn_nil
  clear h
  go_enter Try.func29, Try.ntmps29
  go_wp2
  go_ret
  exact ⟨rfl, rfl⟩
theorem sdone_yes {w : World} {bp bk : Nat} {k c y s : Int} (h : Row w bp 126 (pendL bk k c y .nilFunc s)) :
    Calls Try.prog 29 #[.pointer (some ⟨bp, 0, none⟩)] w fun e w' => e = .returned (.bool true) ∧ w = w' := by
  obtain ⟨c0, c1, c2, c3, c4, c5, c6⟩ := pend_cells h
  have q1 := eql_nil_nil
  have q2 := neq_nil_nil
  have q3 := eql_fn_nil
  have q4 := neq_fn_nil
  clear h
  go_enter Try.func29, Try.ntmps29
  go_wp2
  go_ret
  exact ⟨rfl, rfl⟩
theorem sanswer_no {w : World} {bp bk : Nat} {k c y s : Int} {f : FuncId} (h : Row w bp 126 (pendL bk k c y (fnV f) s)) :
    Calls Try.prog 30 #[.pointer (some ⟨bp, 0, none⟩)] w fun e w' => e = .returned (.int .u64 0) ∧ w = w' := by
  obtain ⟨c0, c1, c2, c3, c4, c5, c6⟩ := pend_cells h
  unfold fnV at c5
  have q1 := eql_nil_nil
  have q2 := neq_nil_nil
  have q3 := eql_fn_nil
  have q4 := neq_fn_nil
  clear h
  go_enter Try.func30, Try.ntmps30
  go_wp2
  go_ret
  exact ⟨rfl, rfl⟩
theorem sanswer_yes {w : World} {bp bk : Nat} {k c y s : Int} (h : Row w bp 126 (pendL bk k c y .nilFunc s)) :
    Calls Try.prog 30 #[.pointer (some ⟨bp, 0, none⟩)] w fun e w' => e = .returned (.int .u64 s) ∧ w = w' := by
  obtain ⟨c0, c1, c2, c3, c4, c5, c6⟩ := pend_cells h
  have q1 := eql_nil_nil
  have q2 := neq_nil_nil
  have q3 := eql_fn_nil
  have q4 := neq_fn_nil
  clear h
  go_enter Try.func30, Try.ntmps30
  go_wp2
  go_ret
  exact ⟨rfl, rfl⟩
end Go.Proofs.Ytcocegneegjcpaa
