/- THE WALKS of package sem: load, wait, enter. -/
import Derived.Test.YtamigipljgijlaaMa
namespace Go.Proofs.Ytamigipljgijlaa
open Go Go.RowKit
set_option maxRecDepth 100000
/-- next: a load, and who is handed what it saw -/
def LoadM (w : World) (bp : Nat) (nx : Value) (c : Int) (u : Value) : Prop := ∃ b, ActM w bp nx 1 c 0 0 (.func (.func 53) #[] #[.pointer (some ⟨b, 0, none⟩)]) ∧ Row w b 80 [u]
/-- next: a load of what was given back, by who waits with a ticket -/
def WaitM (w : World) (bp : Nat) (nx : Value) (tk : Int) : Prop := ∃ b1 b2, LoadM w bp nx 1 (.func (.func 46) #[] #[.pointer (some ⟨b1, 0, none⟩), .pointer (some ⟨b2, 0, none⟩)]) ∧ Row w b1 29 [.int .u64 tk] ∧ Row w b2 35 [.pointer (some ⟨bp, 0, none⟩)]
/-- next: a ticket is drawn -/
def EnterM (w : World) (bp : Nat) (nx : Value) : Prop := ∃ b, ActM w bp nx 3 0 0 1 (.func (.func 34) #[] #[.pointer (some ⟨b, 0, none⟩)]) ∧ Row w b 35 [.pointer (some ⟨bp, 0, none⟩)]
theorem load_any {w : World} {bp bs : Nat} {nx : Value} {an wy c : Int} {f : Nat} {cs : Array Value} (hp : Row w bp 69 (pendM bs nx an wy)) :
    Calls Try.prog 45 #[.pointer (some ⟨bp, 0, none⟩), .int .i64 c, .func (.func f) #[] cs] w fun e w' => e = .returned (.tuple #[]) ∧ ∃ nx', Row w' bp 69 (pendM bs nx' an wy) ∧ LoadM w' bp nx' c (.func (.func f) #[] cs) ∧ Part [bp] w w' := by
  have hlt := hp.lt
  have HP := Lib.hid hp
  clear hp
  go_enter Try.func45, Try.ntmps45
  go_wp2_with (go_at_call 33; refine (act_any (HP.out.alloc _)).mono ?_; rintro e w1 ⟨rfl, nx', hr, ha, hP⟩; have HR := Lib.hid hr; have HA := Lib.hid ha; have HQ := Lib.hid hP; clear hr ha hP)
  go_end0
  exact ⟨rfl, nx', HR.out, ⟨_, HA.out, (Row.new w _ [_]).part HQ.out (by simp; omega)⟩, ((Part.refl [bp] w).alloc _).then_ HQ.out⟩
theorem wait_any {w : World} {bp bs : Nat} {nx : Value} {an wy tk : Int} (hp : Row w bp 69 (pendM bs nx an wy)) :
    Calls Try.prog 35 #[.pointer (some ⟨bp, 0, none⟩), .int .u64 tk] w fun e w' => e = .returned (.tuple #[]) ∧ ∃ nx', Row w' bp 69 (pendM bs nx' an wy) ∧ WaitM w' bp nx' tk ∧ Part [bp] w w' := by
  have hlt := hp.lt
  have HP := Lib.hid hp
  clear hp
  go_enter Try.func35, Try.ntmps35
  go_wp2_with (go_at_call 45; refine (load_any ((HP.out.alloc _).alloc _)).mono ?_; rintro e w1 ⟨rfl, nx', hr, ha, hP⟩; have HR := Lib.hid hr; have HA := Lib.hid ha; have HQ := Lib.hid hP; clear hr ha hP)
  go_end0
  refine ⟨rfl, nx', HR.out, ⟨_, _, HA.out, ?_, ?_⟩, (((Part.refl [bp] w).alloc _).alloc _).then_ HQ.out⟩
  · exact (Row.at_ (w := w.alloc _) (by simp)).part HQ.out (by simp; omega)
  · exact ((Row.new w _ [_]).alloc _).part HQ.out (by simp; omega)
theorem enter_any {w : World} {bp bs : Nat} {nx : Value} {an wy : Int} (hp : Row w bp 69 (pendM bs nx an wy)) :
    Calls Try.prog 23 #[.pointer (some ⟨bp, 0, none⟩)] w fun e w' => e = .returned (.tuple #[]) ∧ ∃ nx', Row w' bp 69 (pendM bs nx' an wy) ∧ EnterM w' bp nx' ∧ Part [bp] w w' := by
  have hlt := hp.lt
  have HP := Lib.hid hp
  clear hp
  go_enter Try.func23, Try.ntmps23
  go_wp2_with (go_at_call 33; refine (act_any (HP.out.alloc _)).mono ?_; rintro e w1 ⟨rfl, nx', hr, ha, hP⟩; have HR := Lib.hid hr; have HA := Lib.hid ha; have HQ := Lib.hid hP; clear hr ha hP)
  go_end0
  exact ⟨rfl, nx', HR.out, ⟨_, HA.out, (Row.new w _ [_]).part HQ.out (by simp; omega)⟩, ((Part.refl [bp] w).alloc _).then_ HQ.out⟩
end Go.Proofs.Ytamigipljgijlaa
