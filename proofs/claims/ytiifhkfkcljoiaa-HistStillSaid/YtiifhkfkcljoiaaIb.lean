/- THE WALKS of package hist: record's functions. -/
import Derived.Test.YtiifhkfkcljoiaaIa
import Derived.Deep.Cut
import Derived.Deep.CutRange
import Derived.Deep.DeepCutAuto
import Derived.Deep.RegionHeld3
namespace Go.Proofs.Ytiifhkfkcljoiaa
open Go Go.RowKit
set_option maxRecDepth 100000
set_option maxHeartbeats 1600000
/-- the boxes of who records: the operation, the number, how often -/
structure RecB (w : World) (bp : Nat) (v n : Int) (b0 b1 b2 : Nat) : Prop where
  p : Row w b0 34 [.pointer (some ⟨bp, 0, none⟩)]
  v : Row w b1 38 [.int .u64 v]
  n : Row w b2 38 [.int .u64 n]
theorem RecB.part {w w1 : World} {bp : Nat} {v n : Int} {b0 b1 b2 : Nat} {S : List Nat} (h : RecB w bp v n b0 b1 b2) (hP : Part S w w1) (h0 : b0 ∉ S) (h1 : b1 ∉ S) (h2 : b2 ∉ S) : RecB w1 bp v n b0 b1 b2 := ⟨h.p.part hP h0, h.v.part hP h1, h.n.part hP h2⟩
theorem RecB.off {w w1 : World} {bp : Nat} {v n : Int} {b0 b1 b2 : Nat} {l : List Value} (h : RecB w bp v n b0 b1 b2) (hp : Row w bp 85 l) (hP : Part [bp] w w1) : RecB w1 bp v n b0 b1 b2 :=
  h.part hP (by simpa using h.p.ne hp (by decide)) (by simpa using h.v.ne hp (by decide)) (by simpa using h.n.ne hp (by decide))
theorem RecB.drew {w : World} {bp : Nat} {v n : Int} {b0 b1 b2 : Nat} (h : RecB w bp v n b0 b1 b2) : RecB w.drew bp v n b0 b1 b2 := ⟨h.p.drew, h.v.drew, h.n.drew⟩
theorem RecB.alloc {w : World} {bp : Nat} {v n : Int} {b0 b1 b2 : Nat} (h : RecB w bp v n b0 b1 b2) (o : Obj) : RecB (w.alloc o) bp v n b0 b1 b2 := ⟨h.p.alloc o, h.v.alloc o, h.n.alloc o⟩
/-- what comes next of a record: five adds and loads, two of which may be followed by a swap -/
def R0H (w : World) (bp : Nat) (nx : Value) (i v n : Int) : Prop := ∃ b0 b1 b2, AddH w bp nx i n (.func (.func 56) #[] #[.pointer (some ⟨b0, 0, none⟩), .pointer (some ⟨b1, 0, none⟩), .pointer (some ⟨b2, 0, none⟩)]) ∧ RecB w bp v n b0 b1 b2
def R1H (w : World) (bp : Nat) (nx : Value) (nb v n : Int) : Prop := ∃ b0 b1 b2, AddH w bp nx nb (IntKind.u64.wrap (v * n)) (.func (.func 57) #[] #[.pointer (some ⟨b0, 0, none⟩), .pointer (some ⟨b1, 0, none⟩), .pointer (some ⟨b2, 0, none⟩)]) ∧ RecB w bp v n b0 b1 b2
def R2H (w : World) (bp : Nat) (nx : Value) (nb v n : Int) : Prop := ∃ b0 b1 b2, KeepH w bp nx 84 (.func (.func 59) #[] #[.pointer (some ⟨b0, 0, none⟩), .pointer (some ⟨b1, 0, none⟩), .pointer (some ⟨b2, 0, none⟩)]) (nb + 1) v ∧ RecB w bp v n b0 b1 b2
def C2H (w : World) (bp : Nat) (nx : Value) (nb v n saw : Int) : Prop := ∃ b0 b1 b2, CasH w bp nx 84 (.func (.func 59) #[] #[.pointer (some ⟨b0, 0, none⟩), .pointer (some ⟨b1, 0, none⟩), .pointer (some ⟨b2, 0, none⟩)]) (nb + 1) saw v ∧ RecB w bp v n b0 b1 b2
def R3H (w : World) (bp : Nat) (nx : Value) (nb v n : Int) : Prop := ∃ b0 b1 b2, KeepH w bp nx 85 (.func (.func 61) #[] #[.pointer (some ⟨b0, 0, none⟩), .pointer (some ⟨b2, 0, none⟩)]) (nb + 2) (IntKind.u64.wrap (v + 1)) ∧ RecB w bp v n b0 b1 b2
def C3H (w : World) (bp : Nat) (nx : Value) (nb v n saw : Int) : Prop := ∃ b0 b1 b2, CasH w bp nx 85 (.func (.func 61) #[] #[.pointer (some ⟨b0, 0, none⟩), .pointer (some ⟨b2, 0, none⟩)]) (nb + 2) saw (IntKind.u64.wrap (v + 1)) ∧ RecB w bp v n b0 b1 b2
def R4H (w : World) (bp : Nat) (nx : Value) (nb n : Int) : Prop := AddH w bp nx (nb + 3) n (.func (.func 62) #[.pointer (some ⟨bp, 0, none⟩)] #[])
theorem i64_in {x : Int} (h0 : 0 ≤ x) (h1 : x ≤ 100000) : IntKind.i64.wrap x = x := by rw [IntKind.wrap_i64]; omega
section
variable {w : World} {bp bh bk b0 b1 b2 bv : Nat} {nx : Value} {s : ShM} {l h d nb v n saw : Int}
theorem record_any {i : Int} (hp : Row w bp 85 (pendH bh nx s)) :
    Calls Try.prog 38 #[.pointer (some ⟨bp, 0, none⟩), .int .i64 i, .int .u64 v, .int .u64 n] w fun e w' => e = .returned (.tuple #[]) ∧ ∃ nx', Row w' bp 85 (pendH bh nx' s) ∧ R0H w' bp nx' i v n ∧ Part [bp] w w' := by
  have hlt := hp.lt
  have HP := Lib.hid hp
  clear hp
  go_enter Try.func38, Try.ntmps38
  go_wp2_with (go_at_call 55; refine (add_any (((HP.out.alloc _).alloc _).alloc _)).mono ?_; rintro e w1 ⟨rfl, nx', hr, ha, hP⟩; have HR := Lib.hid hr; have HA := Lib.hid ha; have HQ := Lib.hid hP; clear hr ha hP)
  go_end0
  refine ⟨rfl, nx', HR.out, ⟨_, _, _, HA.out, ?_, ?_, ?_⟩, ((((Part.refl [bp] w).alloc _).alloc _).alloc _).then_ HQ.out⟩
  · exact (((Row.new w _ [_]).alloc _).alloc _).part HQ.out (by simp; omega)
  · exact ((Row.at_ (w := (w.alloc _)) (by simp)).alloc _).part HQ.out (by simp; omega)
  · exact (Row.at_ (w := ((w.alloc _).alloc _)) (by simp)).part HQ.out (by simp; omega)
theorem record1_any (hp : Row w bp 85 (pendH bh nx s)) (hh : Row w bh 82 [.int .i64 l, .int .i64 h, .int .i64 d, .int .i64 nb, .pointer (some ⟨bk, 0, none⟩)]) (hb : RecB w bp v n b0 b1 b2) (hn0 : 0 ≤ nb) (hn1 : nb ≤ 65532) :
    Calls Try.prog 56 #[.pointer (some ⟨b0, 0, none⟩), .pointer (some ⟨b1, 0, none⟩), .pointer (some ⟨b2, 0, none⟩)] w fun e w' => e = .returned (.tuple #[]) ∧ ∃ nx', Row w' bp 85 (pendH bh nx' s) ∧ R1H w' bp nx' nb v n ∧ Part [bp] w w' := by
  have c0 : w.cell? ⟨b0, 0, none⟩ = some (.pointer (some ⟨bp, 0, none⟩)) := hb.p.cell 0
  have c1 : w.cell? ⟨b1, 0, none⟩ = some (.int .u64 v) := hb.v.cell 0
  have c2 : w.cell? ⟨b2, 0, none⟩ = some (.int .u64 n) := hb.n.cell 0
  have p0 : w.cell? ⟨bp, 0, none⟩ = some (.pointer (some ⟨bh, 0, none⟩)) := hp.cell 0
  have s3 : w.cell? ⟨bh, 3, none⟩ = some (.int .i64 nb) := hh.cell 3
  have hlt := hp.lt
  have HB := Lib.hid hb
  have HP := Lib.hid hp
  have HH := Lib.hid hh
  have HN : Hid (bh ∉ [bp]) := Lib.hid (by simpa using hh.ne hp (by decide))
  clear hb hp hh
  have wv : IntKind.u64.wrap (v * n) = IntKind.u64.wrap (v * n) := rfl
  have w0 : IntKind.i64.wrap (nb + 0) = nb := by rw [IntKind.wrap_i64]; omega
  have w0' : IntKind.i64.wrap nb = nb := by rw [IntKind.wrap_i64]; omega
  clear wv
  go_enter Try.func56, Try.ntmps56
  go_region_held3 (fun w' => w'.cell? ⟨b0, 0, none⟩ = some (.pointer (some ⟨bp, 0, none⟩)) ∧ w'.cell? ⟨bp, 0, none⟩ = some (.pointer (some ⟨bh, 0, none⟩)) ∧ w'.cell? ⟨bh, 3, none⟩ = some (.int .i64 nb) ∧ w'.cell? ⟨b1, 0, none⟩ = some (.int .u64 v) ∧ w'.cell? ⟨b2, 0, none⟩ = some (.int .u64 n))
    (first | (with_reducible exact ⟨c0, p0, s3, c1, c2⟩) | (exact ⟨q0, r0, t3, q1, q2⟩) | go_keep)
    (first | (go_at_call 55; (with_reducible refine (add_any HP.out.drew).mono ?_); rintro e w1 ⟨rfl, nx', hr, ha, hP⟩; have hb' := HB.out.drew.off HP.out.drew hP; have q0 := hb'.p.cell 0; have q1 := hb'.v.cell 0; have q2 := hb'.n.cell 0; have r0 : w1.cell? ⟨bp, 0, none⟩ = some (.pointer (some ⟨bh, 0, none⟩)) := hr.cell 0; have t3 := (HH.out.drew.part hP HN.out).cell 3; have HR := Lib.hid hr; have HA := Lib.hid ha; have HQ := Lib.hid hP; clear hr ha hP))
  all_goals
    go_wp2_with fail
    go_end0
    first | exact ⟨rfl, nx', HR.out, ⟨b0, b1, b2, HA.out, HB.out.drew.off HP.out.drew HQ.out⟩, ((Part.refl [bp] w).drew).then_ HQ.out⟩ | exact ⟨rfl, nx', HR.out, ⟨b0, b1, b2, HA.out, HB.out.off HP.out HQ.out⟩, HQ.out⟩
theorem record4_any (hp : Row w bp 85 (pendH bh nx s)) (hh : Row w bh 82 [.int .i64 l, .int .i64 h, .int .i64 d, .int .i64 nb, .pointer (some ⟨bk, 0, none⟩)]) (hb : RecB w bp v n b0 b1 b2) (hn0 : 0 ≤ nb) (hn1 : nb ≤ 65532) :
    Calls Try.prog 61 #[.pointer (some ⟨b0, 0, none⟩), .pointer (some ⟨b2, 0, none⟩)] w fun e w' => e = .returned (.tuple #[]) ∧ ∃ nx', Row w' bp 85 (pendH bh nx' s) ∧ R4H w' bp nx' nb n ∧ Part [bp] w w' := by
  have c0 : w.cell? ⟨b0, 0, none⟩ = some (.pointer (some ⟨bp, 0, none⟩)) := hb.p.cell 0
  have c1 : w.cell? ⟨b1, 0, none⟩ = some (.int .u64 v) := hb.v.cell 0
  have c2 : w.cell? ⟨b2, 0, none⟩ = some (.int .u64 n) := hb.n.cell 0
  have p0 : w.cell? ⟨bp, 0, none⟩ = some (.pointer (some ⟨bh, 0, none⟩)) := hp.cell 0
  have s3 : w.cell? ⟨bh, 3, none⟩ = some (.int .i64 nb) := hh.cell 3
  have hlt := hp.lt
  have HB := Lib.hid hb
  have HP := Lib.hid hp
  have HH := Lib.hid hh
  have HN : Hid (bh ∉ [bp]) := Lib.hid (by simpa using hh.ne hp (by decide))
  clear hb hp hh
  have w3 : IntKind.i64.wrap (nb + 3) = nb + 3 := by rw [IntKind.wrap_i64]; omega
  go_enter Try.func61, Try.ntmps61
  go_region_held3 (fun w' => w'.cell? ⟨b0, 0, none⟩ = some (.pointer (some ⟨bp, 0, none⟩)) ∧ w'.cell? ⟨bp, 0, none⟩ = some (.pointer (some ⟨bh, 0, none⟩)) ∧ w'.cell? ⟨bh, 3, none⟩ = some (.int .i64 nb) ∧ w'.cell? ⟨b2, 0, none⟩ = some (.int .u64 n))
    (first | (with_reducible exact ⟨c0, p0, s3, c2⟩) | (exact ⟨q0, r0, t3, q2⟩) | go_keep)
    (first | (go_at_call 55; (with_reducible refine (add_any HP.out.drew).mono ?_); rintro e w1 ⟨rfl, nx', hr, ha, hP⟩; have hb' := HB.out.drew.off HP.out.drew hP; have q0 := hb'.p.cell 0; have q1 := hb'.v.cell 0; have q2 := hb'.n.cell 0; have r0 : w1.cell? ⟨bp, 0, none⟩ = some (.pointer (some ⟨bh, 0, none⟩)) := hr.cell 0; have t3 := (HH.out.drew.part hP HN.out).cell 3; have HR := Lib.hid hr; have HA := Lib.hid ha; have HQ := Lib.hid hP; clear hr ha hP))
  all_goals
    go_wp2_with fail
    go_end0
    first | exact ⟨rfl, nx', HR.out, HA.out, ((Part.refl [bp] w).drew).then_ HQ.out⟩ | exact ⟨rfl, nx', HR.out, HA.out, HQ.out⟩
theorem keepLeast_any {x : Int} {g : FuncId} {bd cs : Array Value} (hp : Row w bp 85 (pendH bh nx s)) (hh : Row w bh 82 [.int .i64 l, .int .i64 h, .int .i64 d, .int .i64 nb, .pointer (some ⟨bk, 0, none⟩)]) (hn0 : 0 ≤ nb) (hn1 : nb ≤ 65532) :
    Calls Try.prog 58 #[.pointer (some ⟨bp, 0, none⟩), .int .u64 x, .func (.func g) bd cs] w fun e w' => e = .returned (.tuple #[]) ∧ ∃ nx', Row w' bp 85 (pendH bh nx' s) ∧ KeepH w' bp nx' 84 (.func (.func g) bd cs) (nb + 1) x ∧ Part [bp] w w' := by
  have p0 : w.cell? ⟨bp, 0, none⟩ = some (.pointer (some ⟨bh, 0, none⟩)) := hp.cell 0
  have s3 : w.cell? ⟨bh, 3, none⟩ = some (.int .i64 nb) := hh.cell 3
  have hlt := hp.lt
  have hhl := hh.lt
  have p0' : (w.alloc (.cells #[.int .u64 x] 38)).cell? ⟨bp, 0, none⟩ = some (.pointer (some ⟨bh, 0, none⟩)) := (hp.alloc _).cell 0
  have s3' : (w.alloc (.cells #[.int .u64 x] 38)).cell? ⟨bh, 3, none⟩ = some (.int .i64 nb) := (hh.alloc _).cell 3
  have x0' : (w.alloc (.cells #[.int .u64 x] 38)).cell? ⟨w.heap.size, 0, none⟩ = some (.int .u64 x) := (Row.new w 38 [.int .u64 x]).cell 0
  have HP := Lib.hid hp
  have HH := Lib.hid hh
  have HN : Hid (bh ∉ [bp]) := Lib.hid (by simpa using hh.ne hp (by decide))
  have HNW : Hid (w.heap.size ∉ [bp]) := Lib.hid (by simp; omega)
  have wi : IntKind.i64.wrap (nb + 1) = nb + 1 := by rw [IntKind.wrap_i64]; omega
  clear hp hh
  go_enter Try.func58, Try.ntmps58
  go_upto_region 1 with fail
  go_region_held3 (fun w' => w'.cell? ⟨bp, 0, none⟩ = some (.pointer (some ⟨bh, 0, none⟩)) ∧ w'.cell? ⟨bh, 3, none⟩ = some (.int .i64 nb) ∧ w'.cell? ⟨w.heap.size, 0, none⟩ = some (.int .u64 x))
    (first | (with_reducible exact ⟨p0', s3', x0'⟩) | (exact ⟨r0, t3, x1⟩) | go_keep)
    (first | (go_at_call 83; (with_reducible refine (keep_any (HP.out.alloc _).drew (Row.new w 38 [.int .u64 x]).drew).mono ?_); rintro e w1 ⟨rfl, nx', hr, ha, hP⟩; have r0 : w1.cell? ⟨bp, 0, none⟩ = some (.pointer (some ⟨bh, 0, none⟩)) := hr.cell 0; have t3 := ((HH.out.alloc _).drew.part hP HN.out).cell 3; have x1 := ((Row.new w 38 [.int .u64 x]).drew.part hP HNW.out).cell 0; have HR := Lib.hid hr; have HA := Lib.hid ha; have HQ := Lib.hid hP; clear hr ha hP))
  all_goals
    go_wp2_with fail
    go_end0
    first | exact ⟨rfl, nx', HR.out, HA.out, (((Part.refl [bp] w).alloc _).drew).then_ HQ.out⟩ | exact ⟨rfl, nx', HR.out, HA.out, ((Part.refl [bp] w).alloc _).then_ HQ.out⟩
theorem keepGreatest_any {x : Int} {g : FuncId} {bd cs : Array Value} (hp : Row w bp 85 (pendH bh nx s)) (hh : Row w bh 82 [.int .i64 l, .int .i64 h, .int .i64 d, .int .i64 nb, .pointer (some ⟨bk, 0, none⟩)]) (hn0 : 0 ≤ nb) (hn1 : nb ≤ 65532) :
    Calls Try.prog 60 #[.pointer (some ⟨bp, 0, none⟩), .int .u64 x, .func (.func g) bd cs] w fun e w' => e = .returned (.tuple #[]) ∧ ∃ nx', Row w' bp 85 (pendH bh nx' s) ∧ KeepH w' bp nx' 85 (.func (.func g) bd cs) (nb + 2) x ∧ Part [bp] w w' := by
  have p0 : w.cell? ⟨bp, 0, none⟩ = some (.pointer (some ⟨bh, 0, none⟩)) := hp.cell 0
  have s3 : w.cell? ⟨bh, 3, none⟩ = some (.int .i64 nb) := hh.cell 3
  have hlt := hp.lt
  have hhl := hh.lt
  have p0' : (w.alloc (.cells #[.int .u64 x] 38)).cell? ⟨bp, 0, none⟩ = some (.pointer (some ⟨bh, 0, none⟩)) := (hp.alloc _).cell 0
  have s3' : (w.alloc (.cells #[.int .u64 x] 38)).cell? ⟨bh, 3, none⟩ = some (.int .i64 nb) := (hh.alloc _).cell 3
  have x0' : (w.alloc (.cells #[.int .u64 x] 38)).cell? ⟨w.heap.size, 0, none⟩ = some (.int .u64 x) := (Row.new w 38 [.int .u64 x]).cell 0
  have HP := Lib.hid hp
  have HH := Lib.hid hh
  have HN : Hid (bh ∉ [bp]) := Lib.hid (by simpa using hh.ne hp (by decide))
  have HNW : Hid (w.heap.size ∉ [bp]) := Lib.hid (by simp; omega)
  have wi : IntKind.i64.wrap (nb + 2) = nb + 2 := by rw [IntKind.wrap_i64]; omega
  clear hp hh
  go_enter Try.func60, Try.ntmps60
  go_upto_region 1 with fail
  go_region_held3 (fun w' => w'.cell? ⟨bp, 0, none⟩ = some (.pointer (some ⟨bh, 0, none⟩)) ∧ w'.cell? ⟨bh, 3, none⟩ = some (.int .i64 nb) ∧ w'.cell? ⟨w.heap.size, 0, none⟩ = some (.int .u64 x))
    (first | (with_reducible exact ⟨p0', s3', x0'⟩) | (exact ⟨r0, t3, x1⟩) | go_keep)
    (first | (go_at_call 83; (with_reducible refine (keep_any (HP.out.alloc _).drew (Row.new w 38 [.int .u64 x]).drew).mono ?_); rintro e w1 ⟨rfl, nx', hr, ha, hP⟩; have r0 : w1.cell? ⟨bp, 0, none⟩ = some (.pointer (some ⟨bh, 0, none⟩)) := hr.cell 0; have t3 := ((HH.out.alloc _).drew.part hP HN.out).cell 3; have x1 := ((Row.new w 38 [.int .u64 x]).drew.part hP HNW.out).cell 0; have HR := Lib.hid hr; have HA := Lib.hid ha; have HQ := Lib.hid hP; clear hr ha hP))
  all_goals
    go_wp2_with fail
    go_end0
    first | exact ⟨rfl, nx', HR.out, HA.out, (((Part.refl [bp] w).alloc _).drew).then_ HQ.out⟩ | exact ⟨rfl, nx', HR.out, HA.out, ((Part.refl [bp] w).alloc _).then_ HQ.out⟩
theorem record2_any (hp : Row w bp 85 (pendH bh nx s)) (hh : Row w bh 82 [.int .i64 l, .int .i64 h, .int .i64 d, .int .i64 nb, .pointer (some ⟨bk, 0, none⟩)]) (hb : RecB w bp v n b0 b1 b2) (hn0 : 0 ≤ nb) (hn1 : nb ≤ 65532) :
    Calls Try.prog 57 #[.pointer (some ⟨b0, 0, none⟩), .pointer (some ⟨b1, 0, none⟩), .pointer (some ⟨b2, 0, none⟩)] w fun e w' => e = .returned (.tuple #[]) ∧ ∃ nx', Row w' bp 85 (pendH bh nx' s) ∧ R2H w' bp nx' nb v n ∧ Part [bp] w w' := by
  have c0 : w.cell? ⟨b0, 0, none⟩ = some (.pointer (some ⟨bp, 0, none⟩)) := hb.p.cell 0
  have c1 : w.cell? ⟨b1, 0, none⟩ = some (.int .u64 v) := hb.v.cell 0
  have c2 : w.cell? ⟨b2, 0, none⟩ = some (.int .u64 n) := hb.n.cell 0
  have p0 : w.cell? ⟨bp, 0, none⟩ = some (.pointer (some ⟨bh, 0, none⟩)) := hp.cell 0
  have s3 : w.cell? ⟨bh, 3, none⟩ = some (.int .i64 nb) := hh.cell 3
  have hlt := hp.lt
  have HB := Lib.hid hb
  have HP := Lib.hid hp
  have HH := Lib.hid hh
  have HN : Hid (bh ∉ [bp]) := Lib.hid (by simpa using hh.ne hp (by decide))
  clear hb hp hh
  go_enter Try.func57, Try.ntmps57
  go_wp2_with (go_at_call 58; (with_reducible refine (keepLeast_any HP.out HH.out hn0 hn1).mono ?_); rintro e w1 ⟨rfl, nx', hr, ha, hP⟩; have HR := Lib.hid hr; have HA := Lib.hid ha; have HQ := Lib.hid hP; clear hr ha hP)
  go_end0
  exact ⟨rfl, nx', HR.out, ⟨b0, b1, b2, HA.out, HB.out.off HP.out HQ.out⟩, HQ.out⟩
theorem record3_any (hp : Row w bp 85 (pendH bh nx s)) (hh : Row w bh 82 [.int .i64 l, .int .i64 h, .int .i64 d, .int .i64 nb, .pointer (some ⟨bk, 0, none⟩)]) (hb : RecB w bp v n b0 b1 b2) (hn0 : 0 ≤ nb) (hn1 : nb ≤ 65532) :
    Calls Try.prog 59 #[.pointer (some ⟨b0, 0, none⟩), .pointer (some ⟨b1, 0, none⟩), .pointer (some ⟨b2, 0, none⟩)] w fun e w' => e = .returned (.tuple #[]) ∧ ∃ nx', Row w' bp 85 (pendH bh nx' s) ∧ R3H w' bp nx' nb v n ∧ Part [bp] w w' := by
  have c0 : w.cell? ⟨b0, 0, none⟩ = some (.pointer (some ⟨bp, 0, none⟩)) := hb.p.cell 0
  have c1 : w.cell? ⟨b1, 0, none⟩ = some (.int .u64 v) := hb.v.cell 0
  have c2 : w.cell? ⟨b2, 0, none⟩ = some (.int .u64 n) := hb.n.cell 0
  have p0 : w.cell? ⟨bp, 0, none⟩ = some (.pointer (some ⟨bh, 0, none⟩)) := hp.cell 0
  have s3 : w.cell? ⟨bh, 3, none⟩ = some (.int .i64 nb) := hh.cell 3
  have hlt := hp.lt
  have HB := Lib.hid hb
  have HP := Lib.hid hp
  have HH := Lib.hid hh
  have HN : Hid (bh ∉ [bp]) := Lib.hid (by simpa using hh.ne hp (by decide))
  clear hb hp hh
  go_enter Try.func59, Try.ntmps59
  go_wp2_with (go_at_call 60; (with_reducible refine (keepGreatest_any HP.out HH.out hn0 hn1).mono ?_); rintro e w1 ⟨rfl, nx', hr, ha, hP⟩; have HR := Lib.hid hr; have HA := Lib.hid ha; have HQ := Lib.hid hP; clear hr ha hP)
  go_end0
  exact ⟨rfl, nx', HR.out, ⟨b0, b1, b2, HA.out, HB.out.off HP.out HQ.out⟩, HQ.out⟩
theorem keepLeast1_any {x : Int} (hv : Row w bv 38 [.int .u64 x]) : Calls Try.prog 84 #[.int .u64 saw, .pointer (some ⟨bv, 0, none⟩)] w fun e w' => e = .returned (.bool (decide (x < saw))) ∧ w = w' := by
  have c0 : w.cell? ⟨bv, 0, none⟩ = some (.int .u64 x) := hv.cell 0
  clear hv
  go_enter Try.func84, Try.ntmps84
  go_wp2
  go_ret
  exact ⟨rfl, rfl⟩
theorem keepGreatest1_any {x : Int} (hv : Row w bv 38 [.int .u64 x]) : Calls Try.prog 85 #[.int .u64 saw, .pointer (some ⟨bv, 0, none⟩)] w fun e w' => e = .returned (.bool (decide (saw < x))) ∧ w = w' := by
  have c0 : w.cell? ⟨bv, 0, none⟩ = some (.int .u64 x) := hv.cell 0
  clear hv
  go_enter Try.func85, Try.ntmps85
  go_wp2
  go_ret
  exact ⟨rfl, rfl⟩
end
end Go.Proofs.Ytiifhkfkcljoiaa
