/- THE WALKS of package sem: who waits looks; Done, Answer. -/
import Derived.Test.YtamigipljgijlaaMc
namespace Go.Proofs.Ytamigipljgijlaa
open Go Go.RowKit
set_option maxRecDepth 100000
theorem Row.drewN {w : World} {b : Nat} {t : TypeId} {l : List Value} (h : Row w b t l) (n : Nat) : Row (w.drewN n) b t l := h
theorem eql_nil_nil (w : World) : (binOp BinOp.eql 67 Value.nilFunc Value.nilFunc).run Try.prog w = .ok (.bool true) w := by kernel_rfl
theorem eql_fn_nil (f : FuncId) (cs : Array Value) (w : World) : (binOp BinOp.eql 67 (.func (.func f) #[] cs) Value.nilFunc).run Try.prog w = .ok (.bool false) w := by kernel_rfl
section
variable {w : World} {bp bs b1 b2 : Nat} {nx : Value} {an wy pl tk saw : Int} {cv : Value}
theorem wait1_no (hp : Row w bp 69 (pendM bs nx an wy)) (hs : Row w bs 66 [cv, .int .u64 pl]) (h1 : Row w b1 29 [.int .u64 tk]) (h2 : Row w b2 35 [.pointer (some ⟨bp, 0, none⟩)]) (hlt : decide (tk < IntKind.u64.wrap (pl + saw)) = false) :
    Calls Try.prog 46 #[.int .u64 saw, .pointer (some ⟨b1, 0, none⟩), .pointer (some ⟨b2, 0, none⟩)] w fun e w' => e = .returned (.tuple #[]) ∧ ∃ nx', Row w' bp 69 (pendM bs nx' an wy) ∧ WaitM w' bp nx' tk ∧ Part [bp] w w' := by
  have c1 : w.cell? ⟨b1, 0, none⟩ = some (.int .u64 tk) := h1.cell 0
  have c2 : w.cell? ⟨b2, 0, none⟩ = some (.pointer (some ⟨bp, 0, none⟩)) := h2.cell 0
  have p0 : w.cell? ⟨bp, 0, none⟩ = some (.pointer (some ⟨bs, 0, none⟩)) := hp.cell 0
  have HP := Lib.hid hp
  have HS := Lib.hid hs
  have HL := Lib.hid hlt
  clear hp hs h1 h2 hlt
  go_enter Try.func46, Try.ntmps46
  go_upto_region 1 with (fail)
  go_quiet ((go_at_call 38; exact Calls.quiet_of_same ((served_any (HS.out.drewN _)).mono fun _ _ ⟨a, b⟩ => ⟨a, b.symm⟩)))
  rw [HL.out]
  go_wp2_with (go_at_call 35; (with_reducible refine (wait_any (HP.out.drewN _)).mono ?_); rintro e w1 ⟨rfl, nx', hr, ha, hP⟩; have HR := Lib.hid hr; have HA := Lib.hid ha; have HQ := Lib.hid hP; clear hr ha hP)
  go_end0
  exact ⟨rfl, nx', HR.out, HA.out, ((Part.refl [bp] w).drewN _).then_ HQ.out⟩
theorem wait1_yes (hp : Row w bp 69 (pendM bs nx an wy)) (hs : Row w bs 66 [cv, .int .u64 pl]) (h1 : Row w b1 29 [.int .u64 tk]) (h2 : Row w b2 35 [.pointer (some ⟨bp, 0, none⟩)]) (hlt : decide (tk < IntKind.u64.wrap (pl + saw)) = true) :
    Calls Try.prog 46 #[.int .u64 saw, .pointer (some ⟨b1, 0, none⟩), .pointer (some ⟨b2, 0, none⟩)] w fun e w' => e = .returned (.tuple #[]) ∧ Row w' bp 69 (pendM bs .nilFunc tk 0) ∧ Part [bp] w w' := by
  have c1 : w.cell? ⟨b1, 0, none⟩ = some (.int .u64 tk) := h1.cell 0
  have c2 : w.cell? ⟨b2, 0, none⟩ = some (.pointer (some ⟨bp, 0, none⟩)) := h2.cell 0
  have p0 : w.cell? ⟨bp, 0, none⟩ = some (.pointer (some ⟨bs, 0, none⟩)) := hp.cell 0
  have HP := Lib.hid hp
  have HS := Lib.hid hs
  have HL := Lib.hid hlt
  clear hp hs h1 h2 hlt
  go_enter Try.func46, Try.ntmps46
  go_upto_region 1 with (fail)
  go_quiet ((go_at_call 38; exact Calls.quiet_of_same ((served_any (HS.out.drewN _)).mono fun _ _ ⟨a, b⟩ => ⟨a, b.symm⟩)))
  rw [HL.out]
  go_wp2_with (go_at_call 39; (with_reducible refine (end_any (HP.out.drewN _)).mono ?_); rintro e w1 ⟨rfl, hr, hP⟩; have HR := Lib.hid hr; have HQ := Lib.hid hP; clear hr hP)
  go_end0
  exact ⟨rfl, HR.out, ((Part.refl [bp] w).drewN _).then_ HQ.out⟩
end
theorem done_no {w : World} {bp bs f : Nat} {cs : Array Value} {an wy : Int} (hp : Row w bp 69 (pendM bs (.func (.func f) #[] cs) an wy)) :
    Calls Try.prog 15 #[.pointer (some ⟨bp, 0, none⟩)] w fun e w' => e = .returned (.bool false) ∧ w = w' := by
  have c1 : w.cell? ⟨bp, 1, none⟩ = some (.func (.func f) #[] cs) := hp.cell 1
  clear hp
  have q1 := eql_nil_nil
  have q2 := eql_fn_nil
  go_enter Try.func15, Try.ntmps15
  go_wp2
  go_ret
  exact ⟨rfl, rfl⟩
theorem done_yes {w : World} {bp bs : Nat} {an wy : Int} (hp : Row w bp 69 (pendM bs .nilFunc an wy)) :
    Calls Try.prog 15 #[.pointer (some ⟨bp, 0, none⟩)] w fun e w' => e = .returned (.bool true) ∧ w = w' := by
  have c1 : w.cell? ⟨bp, 1, none⟩ = some .nilFunc := hp.cell 1
  clear hp
  have q1 := eql_nil_nil
  have q2 := eql_fn_nil
  go_enter Try.func15, Try.ntmps15
  go_wp2
  go_ret
  exact ⟨rfl, rfl⟩
theorem answer_any {w : World} {bp bs : Nat} {nx : Value} {an wy : Int} (hp : Row w bp 69 (pendM bs nx an wy)) :
    Calls Try.prog 13 #[.pointer (some ⟨bp, 0, none⟩)] w fun e w' => e = .returned (.tuple #[.int .u64 an, .int .i64 wy]) ∧ ∃ n, w' = w.drewN n := by
  have c2 : w.cell? ⟨bp, 2, none⟩ = some (.int .u64 an) := hp.cell 2
  have c3 : w.cell? ⟨bp, 3, none⟩ = some (.int .i64 wy) := hp.cell 3
  clear hp
  go_enter Try.func13, Try.ntmps13
  go_wp2
  go_quiet (fail)
  go_wp2
  go_ret2
  exact ⟨rfl, _, rfl⟩
end Go.Proofs.Ytamigipljgijlaa
