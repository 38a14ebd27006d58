/- THE WALKS of package hist: act, end, load, add, keep: what comes next is a function with its boxes. -/
import Derived.Test.YtiifhkfkcljoiaaCf
namespace Go.Proofs.Ytiifhkfkcljoiaa
open Go Go.RowKit
set_option maxRecDepth 100000
theorem Row.at_ {w : World} {t : TypeId} {v : List Value} {n : Nat} (hn : n = w.heap.size) : Row (w.alloc (.cells v.toArray t)) n t v := by
  subst hn
  exact Row.new w t v
/-- what a snapshot under way has: the count, the sum, the least, the greatest, the list of buckets -/
structure ShM where
  c : Int
  su : Int
  le : Int
  gr : Int
  bv : Value
/-- the pending of a histogram at bh: what comes next, the snapshot -/
def pendH (bh : Nat) (nx : Value) (s : ShM) : List Value := [.pointer (some ⟨bh, 0, none⟩), nx, .int .u64 s.c, .int .u64 s.su, .int .i64 s.le, .int .i64 s.gr, s.bv]
/-- a function and its one box -/
abbrev fnB (f : FuncId) (b : Nat) : Value := .func (.func f) #[] #[.pointer (some ⟨b, 0, none⟩)]
/-- next: an action, and who is handed what it did -/
def ActH (w : World) (bp : Nat) (nx : Value) (k c o n : Int) (t : Value) : Prop := ∃ b1 b2 b3, nx = (.func (.func 92) #[] #[.pointer (some ⟨b1, 0, none⟩), .pointer (some ⟨b2, 0, none⟩), .pointer (some ⟨b3, 0, none⟩)])
  ∧ Row w b1 34 [.pointer (some ⟨bp, 0, none⟩)] ∧ Row w b2 129 [.int .u8 k, .int .i64 c, .int .u64 o, .int .u64 n] ∧ Row w b3 130 [t]
/-- next: a load, and who is handed what it saw -/
def LoadH (w : World) (bp : Nat) (nx : Value) (c : Int) (u : Value) : Prop := ∃ b, ActH w bp nx 1 c 0 0 (.func (.func 86) #[] #[.pointer (some ⟨b, 0, none⟩)]) ∧ Row w b 108 [u]
/-- next: an add, and what comes behind it -/
def AddH (w : World) (bp : Nat) (nx : Value) (c by_ : Int) (u : Value) : Prop := ∃ b, ActH w bp nx 3 c 0 by_ (.func (.func 82) #[] #[.pointer (some ⟨b, 0, none⟩)]) ∧ Row w b 1 [u]
/-- the five boxes of who keeps the better of two words -/
def KeepB (w : World) (bp : Nat) (f : FuncId) (t : Value) (c x : Int) (bb bt bq bc bx : Nat) : Prop := ∃ bv, Row w bb 118 [fnB f bv] ∧ Row w bv 38 [.int .u64 x] ∧ Row w bt 1 [t] ∧ Row w bq 34 [.pointer (some ⟨bp, 0, none⟩)] ∧ Row w bc 3 [.int .i64 c] ∧ Row w bx 38 [.int .u64 x]
/-- next: a load of a cell that is kept the better of what it has and a word -/
def KeepH (w : World) (bp : Nat) (nx : Value) (f : FuncId) (t : Value) (c x : Int) : Prop := ∃ bb bt bq bc bx, LoadH w bp nx c (.func (.func 94) #[] #[.pointer (some ⟨bb, 0, none⟩), .pointer (some ⟨bt, 0, none⟩), .pointer (some ⟨bq, 0, none⟩), .pointer (some ⟨bc, 0, none⟩), .pointer (some ⟨bx, 0, none⟩)]) ∧ KeepB w bp f t c x bb bt bq bc bx
/-- next: that word is put there, if it has what was seen -/
def CasH (w : World) (bp : Nat) (nx : Value) (f : FuncId) (t : Value) (c saw x : Int) : Prop := ∃ bb bt bq bc bx, ActH w bp nx 5 c saw x (.func (.func 95) #[] #[.pointer (some ⟨bt, 0, none⟩), .pointer (some ⟨bq, 0, none⟩), .pointer (some ⟨bc, 0, none⟩), .pointer (some ⟨bx, 0, none⟩), .pointer (some ⟨bb, 0, none⟩)]) ∧ KeepB w bp f t c x bb bt bq bc bx
section
variable {w : World} {bp bh : Nat} {nx : Value} {s : ShM} {k c o n x : Int} {f : FuncId} {bd cs : Array Value}
theorem act_any (hp : Row w bp 85 (pendH bh nx s)) :
    Calls Try.prog 81 #[.pointer (some ⟨bp, 0, none⟩), .agg #[.int .u8 k, .int .i64 c, .int .u64 o, .int .u64 n], .func (.func f) #[] cs] w fun e w' => e = .returned (.tuple #[]) ∧ ∃ nx', Row w' bp 85 (pendH bh nx' s) ∧ ActH w' bp nx' k c o n (.func (.func f) #[] cs) ∧ Part [bp] w w' := by
  have hlt := hp.lt
  have hl1 : bp < w.heap.size + 1 := by omega
  have hl2 : bp < w.heap.size + 1 + 1 := by omega
  have hf := hp.free
  have hc : w.cell? ⟨bp, 1, none⟩ = some nx := hp.cell 1
  have HP := Lib.hid hp
  clear hp
  go_enter Try.func81, Try.ntmps81
  go_wp2
  go_end0
  refine ⟨rfl, _, ?_, ⟨w.heap.size, w.heap.size + 1, w.heap.size + 1 + 1, rfl, ?_, ?_, ?_⟩, ?_⟩
  · exact (((HP.out.set 1 _).alloc _).alloc _).alloc _
  · exact ((Row.at_ (w := w.setCell _ _) (by simp)).alloc _).alloc _
  · exact (Row.at_ (w := (w.setCell _ _).alloc _) (by simp)).alloc _
  · exact Row.at_ (w := ((w.setCell _ _).alloc _).alloc _) (by simp)
  · exact (((Part.set (Part.refl _ w) (by simp) _).alloc _).alloc _).alloc _
theorem end_any (hp : Row w bp 85 (pendH bh nx s)) :
    Calls Try.prog 62 #[.pointer (some ⟨bp, 0, none⟩)] w fun e w' => e = .returned (.tuple #[]) ∧ Row w' bp 85 (pendH bh .nilFunc s) ∧ Part [bp] w w' := by
  have hlt := hp.lt
  have hf := hp.free
  have c1 : w.cell? ⟨bp, 1, none⟩ = some nx := hp.cell 1
  have HP := Lib.hid hp
  clear hp
  go_enter Try.func62, Try.ntmps62
  go_wp2
  go_end0
  exact ⟨rfl, HP.out.set 1 _, Part.set (Part.refl _ w) (by simp) _⟩
theorem load_any (hp : Row w bp 85 (pendH bh nx s)) :
    Calls Try.prog 63 #[.pointer (some ⟨bp, 0, none⟩), .int .i64 c, .func (.func f) #[] cs] w fun e w' => e = .returned (.tuple #[]) ∧ ∃ nx', Row w' bp 85 (pendH bh nx' s) ∧ LoadH w' bp nx' c (.func (.func f) #[] cs) ∧ Part [bp] w w' := by
  have hlt := hp.lt
  have HP := Lib.hid hp
  clear hp
  go_enter Try.func63, Try.ntmps63
  go_wp2_with (go_at_call 81; refine (act_any (HP.out.alloc _)).mono ?_; rintro e w1 ⟨rfl, nx', hr, ha, hP⟩; have HR := Lib.hid hr; have HA := Lib.hid ha; have HQ := Lib.hid hP; clear hr ha hP)
  go_end0
  exact ⟨rfl, nx', HR.out, ⟨_, HA.out, (Row.new w _ [_]).part HQ.out (by simp; omega)⟩, ((Part.refl [bp] w).alloc _).then_ HQ.out⟩
theorem add_any (hp : Row w bp 85 (pendH bh nx s)) :
    Calls Try.prog 55 #[.pointer (some ⟨bp, 0, none⟩), .int .i64 c, .int .u64 n, .func (.func f) bd cs] w fun e w' => e = .returned (.tuple #[]) ∧ ∃ nx', Row w' bp 85 (pendH bh nx' s) ∧ AddH w' bp nx' c n (.func (.func f) bd cs) ∧ Part [bp] w w' := by
  have hlt := hp.lt
  have HP := Lib.hid hp
  clear hp
  go_enter Try.func55, Try.ntmps55
  go_wp2_with (go_at_call 81; refine (act_any (HP.out.alloc _)).mono ?_; rintro e w1 ⟨rfl, nx', hr, ha, hP⟩; have HR := Lib.hid hr; have HA := Lib.hid ha; have HQ := Lib.hid hP; clear hr ha hP)
  go_end0
  exact ⟨rfl, nx', HR.out, ⟨_, HA.out, (Row.new w _ [_]).part HQ.out (by simp; omega)⟩, ((Part.refl [bp] w).alloc _).then_ HQ.out⟩
theorem keep_any {bv : Nat} {g : FuncId} (hp : Row w bp 85 (pendH bh nx s)) (hv : Row w bv 38 [.int .u64 x]) :
    Calls Try.prog 83 #[.pointer (some ⟨bp, 0, none⟩), .int .i64 c, .int .u64 x, fnB f bv, .func (.func g) bd cs] w fun e w' => e = .returned (.tuple #[]) ∧ ∃ nx', Row w' bp 85 (pendH bh nx' s) ∧ KeepH w' bp nx' f (.func (.func g) bd cs) c x ∧ Part [bp] w w' := by
  have hlt := hp.lt
  have hvl := hv.lt
  have HP := Lib.hid hp
  have HV := Lib.hid hv
  have HN : Hid (bv ∉ [bp]) := Lib.hid (by simpa using hv.ne hp (by decide))
  clear hp hv
  unfold fnB
  go_enter Try.func83, Try.ntmps83
  go_wp2_with (go_at_call 63; refine (load_any (((((HP.out.alloc _).alloc _).alloc _).alloc _).alloc _)).mono ?_; rintro e w1 ⟨rfl, nx', hr, ha, hP⟩; have HR := Lib.hid hr; have HA := Lib.hid ha; have HQ := Lib.hid hP; clear hr ha hP)
  go_end0
  refine ⟨rfl, nx', HR.out, ⟨_, _, _, _, _, HA.out, bv, ?_, (((((HV.out.alloc _).alloc _).alloc _).alloc _).alloc _).part HQ.out HN.out, ?_, ?_, ?_, ?_⟩, ((((((Part.refl [bp] w).alloc _).alloc _).alloc _).alloc _).alloc _).then_ HQ.out⟩
  · exact ((Row.at_ (w := (((w.alloc _).alloc _).alloc _)) (by simp)).alloc _).part HQ.out (by simp; omega)
  · exact (Row.at_ (w := ((((w.alloc _).alloc _).alloc _).alloc _)) (by simp)).part HQ.out (by simp; omega)
  · exact (((((Row.new w _ [_]).alloc _).alloc _).alloc _).alloc _).part HQ.out (by simp; omega)
  · exact ((((Row.at_ (w := (w.alloc _)) (by simp)).alloc _).alloc _).alloc _).part HQ.out (by simp; omega)
  · exact (((Row.at_ (w := ((w.alloc _).alloc _)) (by simp)).alloc _).alloc _).part HQ.out (by simp; omega)
end
end Go.Proofs.Ytiifhkfkcljoiaa
