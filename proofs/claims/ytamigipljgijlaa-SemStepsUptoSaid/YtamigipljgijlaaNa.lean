/- THE WALKS of package sem: look, try, leave, inside, raise: what comes next. -/
import Derived.Test.YtamigipljgijlaaMd
namespace Go.Proofs.Ytamigipljgijlaa
open Go Go.RowKit
set_option maxRecDepth 100000
/-- a function and its one box -/
def fnB (f : FuncId) (b : Nat) : Value := .func (.func f) #[] #[.pointer (some ⟨b, 0, none⟩)]
/-- next: a load of what was given back, by who looks, for the function f -/
def LookM (w : World) (bp : Nat) (nx : Value) (f : FuncId) : Prop := ∃ b1 b2 b3, LoadM w bp nx 1 (.func (.func 47) #[] #[.pointer (some ⟨b1, 0, none⟩), .pointer (some ⟨b2, 0, none⟩)]) ∧ Row w b1 35 [.pointer (some ⟨bp, 0, none⟩)] ∧ Row w b2 86 [fnB f b3] ∧ Row w b3 35 [.pointer (some ⟨bp, 0, none⟩)]
/-- next: a load of what was drawn, by who has looked at what was given back -/
def SeenM (w : World) (bp : Nat) (nx : Value) (f : FuncId) (gave : Int) : Prop := ∃ b2 bg b3, LoadM w bp nx 0 (.func (.func 48) #[] #[.pointer (some ⟨b2, 0, none⟩), .pointer (some ⟨bg, 0, none⟩)]) ∧ Row w b2 86 [fnB f b3] ∧ Row w bg 29 [.int .u64 gave] ∧ Row w b3 35 [.pointer (some ⟨bp, 0, none⟩)]
theorem look_any {w : World} {bp bs b3 : Nat} {nx : Value} {an wy : Int} {f : FuncId} (hp : Row w bp 69 (pendM bs nx an wy)) (hb : Row w b3 35 [.pointer (some ⟨bp, 0, none⟩)]) :
    Calls Try.prog 36 #[.pointer (some ⟨bp, 0, none⟩), fnB f b3] w fun e w' => e = .returned (.tuple #[]) ∧ ∃ nx', Row w' bp 69 (pendM bs nx' an wy) ∧ LookM w' bp nx' f ∧ Part [bp] w w' := by
  have hlt := hp.lt
  have hbl := hb.lt
  have HP := Lib.hid hp
  have HB := Lib.hid hb
  have hne := hb.ne hp (by decide)
  have HNE := Lib.hid hne
  clear hp hb hne
  unfold fnB
  go_enter Try.func36, Try.ntmps36
  go_wp2_with (go_at_call 45; refine (load_any ((HP.out.alloc _).alloc _)).mono ?_; rintro e w1 ⟨rfl, nx', hr, ha, hP⟩; have HR := Lib.hid hr; have HA := Lib.hid ha; have HQ := Lib.hid hP; clear hr ha hP)
  go_end0
  refine ⟨rfl, nx', HR.out, ⟨_, _, b3, HA.out, ?_, ?_, ?_⟩, (((Part.refl [bp] w).alloc _).alloc _).then_ HQ.out⟩
  · exact ((Row.new w _ [_]).alloc _).part HQ.out (by simp; omega)
  · exact (Row.at_ (w := w.alloc _) (by simp)).part HQ.out (by simp; omega)
  · exact ((HB.out.alloc _).alloc _).part HQ.out (by simpa using HNE.out)
theorem try_any {w : World} {bp bs : Nat} {nx : Value} {an wy : Int} (hp : Row w bp 69 (pendM bs nx an wy)) :
    Calls Try.prog 24 #[.pointer (some ⟨bp, 0, none⟩)] w fun e w' => e = .returned (.tuple #[]) ∧ ∃ nx', Row w' bp 69 (pendM bs nx' an wy) ∧ LookM w' bp nx' 37 ∧ Part [bp] w w' := by
  have HP := Lib.hid hp
  clear hp
  go_enter Try.func24, Try.ntmps24
  go_wp2_with (go_at_call 36; refine (look_any (HP.out.alloc _) (Row.new w 35 [.pointer (some ⟨bp, 0, none⟩)])).mono ?_; rintro e w1 ⟨rfl, nx', hr, ha, hP⟩; have HR := Lib.hid hr; have HA := Lib.hid ha; have HQ := Lib.hid hP; clear hr ha hP)
  go_end0
  exact ⟨rfl, nx', HR.out, HA.out, ((Part.refl [bp] w).alloc _).then_ HQ.out⟩
theorem leave_any {w : World} {bp bs : Nat} {nx : Value} {an wy : Int} (hp : Row w bp 69 (pendM bs nx an wy)) :
    Calls Try.prog 25 #[.pointer (some ⟨bp, 0, none⟩)] w fun e w' => e = .returned (.tuple #[]) ∧ ∃ nx', Row w' bp 69 (pendM bs nx' an wy) ∧ LookM w' bp nx' 41 ∧ Part [bp] w w' := by
  have HP := Lib.hid hp
  clear hp
  go_enter Try.func25, Try.ntmps25
  go_wp2_with (go_at_call 36; refine (look_any (HP.out.alloc _) (Row.new w 35 [.pointer (some ⟨bp, 0, none⟩)])).mono ?_; rintro e w1 ⟨rfl, nx', hr, ha, hP⟩; have HR := Lib.hid hr; have HA := Lib.hid ha; have HQ := Lib.hid hP; clear hr ha hP)
  go_end0
  exact ⟨rfl, nx', HR.out, HA.out, ((Part.refl [bp] w).alloc _).then_ HQ.out⟩
theorem inside_any {w : World} {bp bs : Nat} {nx : Value} {an wy : Int} (hp : Row w bp 69 (pendM bs nx an wy)) :
    Calls Try.prog 26 #[.pointer (some ⟨bp, 0, none⟩)] w fun e w' => e = .returned (.tuple #[]) ∧ ∃ nx', Row w' bp 69 (pendM bs nx' an wy) ∧ LookM w' bp nx' 42 ∧ Part [bp] w w' := by
  have HP := Lib.hid hp
  clear hp
  go_enter Try.func26, Try.ntmps26
  go_wp2_with (go_at_call 36; refine (look_any (HP.out.alloc _) (Row.new w 35 [.pointer (some ⟨bp, 0, none⟩)])).mono ?_; rintro e w1 ⟨rfl, nx', hr, ha, hP⟩; have HR := Lib.hid hr; have HA := Lib.hid ha; have HQ := Lib.hid hP; clear hr ha hP)
  go_end0
  exact ⟨rfl, nx', HR.out, HA.out, ((Part.refl [bp] w).alloc _).then_ HQ.out⟩
/-- who has looked at what was given back -/
theorem look1_any {w : World} {bp bs b1 b2 b3 : Nat} {nx : Value} {an wy gave : Int} {f : FuncId} (hp : Row w bp 69 (pendM bs nx an wy)) (h1 : Row w b1 35 [.pointer (some ⟨bp, 0, none⟩)]) (h2 : Row w b2 86 [fnB f b3]) (h3 : Row w b3 35 [.pointer (some ⟨bp, 0, none⟩)]) :
    Calls Try.prog 47 #[.int .u64 gave, .pointer (some ⟨b1, 0, none⟩), .pointer (some ⟨b2, 0, none⟩)] w fun e w' => e = .returned (.tuple #[]) ∧ ∃ nx', Row w' bp 69 (pendM bs nx' an wy) ∧ SeenM w' bp nx' f gave ∧ Part [bp] w w' := by
  have hlt := hp.lt
  have c1 : w.cell? ⟨b1, 0, none⟩ = some (.pointer (some ⟨bp, 0, none⟩)) := h1.cell 0
  have hb1 := h1.lt
  have HP := Lib.hid hp
  have H2 := Lib.hid h2
  have H3 := Lib.hid h3
  have HN2 := Lib.hid (h2.ne hp (by decide))
  have HN3 := Lib.hid (h3.ne hp (by decide))
  clear hp h1 h2 h3
  go_enter Try.func47, Try.ntmps47
  go_wp2_with (go_at_call 45; refine (load_any (HP.out.alloc _)).mono ?_; rintro e w1 ⟨rfl, nx', hr, ha, hP⟩; have HR := Lib.hid hr; have HA := Lib.hid ha; have HQ := Lib.hid hP; clear hr ha hP)
  go_end0
  refine ⟨rfl, nx', HR.out, ⟨_, _, b3, HA.out, ?_, ?_, ?_⟩, ((Part.refl [bp] w).alloc _).then_ HQ.out⟩
  · exact (H2.out.alloc _).part HQ.out (by simpa using HN2.out)
  · exact (Row.new w _ [_]).part HQ.out (by simp; omega)
  · exact (H3.out.alloc _).part HQ.out (by simpa using HN3.out)
/-- next: one more is put into a cell, if it has what was loaded -/
def RaiseM (w : World) (bp : Nat) (nx : Value) (c saw ans : Int) (v : Value) : Prop := ∃ b1 b2 b3, ActM w bp nx 5 c saw (IntKind.u64.wrap (saw + 1)) (.func (.func 49) #[] #[.pointer (some ⟨b1, 0, none⟩), .pointer (some ⟨b2, 0, none⟩), .pointer (some ⟨b3, 0, none⟩)]) ∧ Row w b1 35 [.pointer (some ⟨bp, 0, none⟩)] ∧ Row w b2 29 [.int .u64 ans] ∧ Row w b3 1 [v]
theorem raise_any {w : World} {bp bs : Nat} {nx : Value} {fv : FuncId} {bd cs : Array Value} {an wy c saw ans : Int} (hp : Row w bp 69 (pendM bs nx an wy)) :
    Calls Try.prog 40 #[.pointer (some ⟨bp, 0, none⟩), .int .i64 c, .int .u64 saw, .int .u64 ans, .func (.func fv) bd cs] w fun e w' => e = .returned (.tuple #[]) ∧ ∃ nx', Row w' bp 69 (pendM bs nx' an wy) ∧ RaiseM w' bp nx' c saw ans (.func (.func fv) bd cs) ∧ Part [bp] w w' := by
  have hlt := hp.lt
  have HP := Lib.hid hp
  clear hp
  go_enter Try.func40, Try.ntmps40
  go_wp2_with (go_at_call 33; refine (act_any (((HP.out.alloc _).alloc _).alloc _)).mono ?_; rintro e w1 ⟨rfl, nx', hr, ha, hP⟩; have HR := Lib.hid hr; have HA := Lib.hid ha; have HQ := Lib.hid hP; clear hr ha hP)
  go_end0
  refine ⟨rfl, nx', HR.out, ⟨_, _, _, HA.out, ?_, ?_, ?_⟩, ((((Part.refl [bp] w).alloc _).alloc _).alloc _).then_ HQ.out⟩
  · exact (((Row.new w _ [_]).alloc _).alloc _).part HQ.out (by simp; omega)
  · exact ((Row.at_ (w := w.alloc _) (by simp)).alloc _).part HQ.out (by simp; omega)
  · exact (Row.at_ (w := (w.alloc _).alloc _) (by simp)).part HQ.out (by simp; omega)
section
variable {w : World} {bp bs b : Nat} {nx cv : Value} {an wy pl gave drew : Int}
theorem try1_full (hp : Row w bp 69 (pendM bs nx an wy)) (hs : Row w bs 66 [cv, .int .u64 pl]) (hb : Row w b 35 [.pointer (some ⟨bp, 0, none⟩)]) (hlt : decide (IntKind.u64.wrap (pl + gave) ≤ drew) = true) :
    Calls Try.prog 37 #[.int .u64 gave, .int .u64 drew, .pointer (some ⟨b, 0, none⟩)] w fun e w' => e = .returned (.tuple #[]) ∧ Row w' bp 69 (pendM bs .nilFunc 0 51) ∧ Part [bp] w w' := by
  have c1 : w.cell? ⟨b, 0, none⟩ = some (.pointer (some ⟨bp, 0, none⟩)) := hb.cell 0
  have p0 : w.cell? ⟨bp, 0, none⟩ = some (.pointer (some ⟨bs, 0, none⟩)) := hp.cell 0
  have HP := Lib.hid hp
  have HS := Lib.hid hs
  clear hp hs hb
  go_enter Try.func37, Try.ntmps37
  go_wp2_with (first
    | (go_at_call 38; (with_reducible refine (served_any HS.out).mono ?_); rintro e wx ⟨rfl, rfl⟩)
    | (go_at_call 39; (with_reducible refine (end_any HP.out).mono ?_); rintro e w1 ⟨rfl, hr, hP⟩; have HR := Lib.hid hr; have HQ := Lib.hid hP; clear hr hP))
  go_end0
  exact ⟨rfl, HR.out, HQ.out⟩
theorem try1_more (hp : Row w bp 69 (pendM bs nx an wy)) (hs : Row w bs 66 [cv, .int .u64 pl]) (hb : Row w b 35 [.pointer (some ⟨bp, 0, none⟩)]) (hlt : decide (IntKind.u64.wrap (pl + gave) ≤ drew) = false) :
    Calls Try.prog 37 #[.int .u64 gave, .int .u64 drew, .pointer (some ⟨b, 0, none⟩)] w fun e w' => e = .returned (.tuple #[]) ∧ ∃ nx', Row w' bp 69 (pendM bs nx' an wy) ∧ RaiseM w' bp nx' 0 drew drew (.func (.func 24) #[.pointer (some ⟨bp, 0, none⟩)] #[]) ∧ Part [bp] w w' := by
  have c1 : w.cell? ⟨b, 0, none⟩ = some (.pointer (some ⟨bp, 0, none⟩)) := hb.cell 0
  have p0 : w.cell? ⟨bp, 0, none⟩ = some (.pointer (some ⟨bs, 0, none⟩)) := hp.cell 0
  have HP := Lib.hid hp
  have HS := Lib.hid hs
  clear hp hs
  go_enter Try.func37, Try.ntmps37
  go_wp2_with (first
    | (go_at_call 38; (with_reducible refine (served_any HS.out).mono ?_); rintro e wx ⟨rfl, rfl⟩)
    | (go_at_call 40; (with_reducible refine (raise_any HP.out).mono ?_); rintro e w1 ⟨rfl, nx', hr, ha, hP⟩; have HR := Lib.hid hr; have HA := Lib.hid ha; have HQ := Lib.hid hP; clear hr ha hP))
  go_end0
  exact ⟨rfl, nx', HR.out, HA.out, HQ.out⟩
end
end Go.Proofs.Ytamigipljgijlaa
