/- THE WALKS of package hist: show's functions; gather. -/
import Derived.Test.YtiifhkfkcljoiaaIc
import Derived.Deep.RegionLaw
import Derived.Laws.MakeOwn
namespace Go.Proofs.Ytiifhkfkcljoiaa
open Go Go.RowKit
set_option maxRecDepth 100000
set_option maxHeartbeats 1600000
theorem Row.of_eq {w : World} {b : Nat} {t : TypeId} {l l' : List Value} (h : Row w b t l) (he : l = l') : Row w b t l' := he ▸ h
/-- next of a show: a load of the count, the least, the greatest, the sum -/
def S1H (w : World) (bp : Nat) (nx : Value) (nb : Int) : Prop := ∃ b0, LoadH w bp nx (nb + 3) (.func (.func 64) #[] #[.pointer (some ⟨b0, 0, none⟩)]) ∧ Row w b0 34 [.pointer (some ⟨bp, 0, none⟩)]
def S2H (w : World) (bp : Nat) (nx : Value) (nb : Int) : Prop := ∃ b0, LoadH w bp nx (nb + 1) (.func (.func 65) #[] #[.pointer (some ⟨b0, 0, none⟩)]) ∧ Row w b0 34 [.pointer (some ⟨bp, 0, none⟩)]
def S3H (w : World) (bp : Nat) (nx : Value) (nb : Int) : Prop := ∃ b0, LoadH w bp nx (nb + 2) (.func (.func 66) #[] #[.pointer (some ⟨b0, 0, none⟩)]) ∧ Row w b0 34 [.pointer (some ⟨bp, 0, none⟩)]
def S4H (w : World) (bp : Nat) (nx : Value) (nb : Int) : Prop := ∃ b0, LoadH w bp nx nb (.func (.func 67) #[] #[.pointer (some ⟨b0, 0, none⟩)]) ∧ Row w b0 34 [.pointer (some ⟨bp, 0, none⟩)]
/-- of a bucket -/
def GatH (w : World) (bp : Nat) (nx : Value) (k : Int) : Prop := ∃ b0, LoadH w bp nx k (.func (.func 87) #[] #[.pointer (some ⟨b0, 0, none⟩)]) ∧ Row w b0 34 [.pointer (some ⟨bp, 0, none⟩)]
section
variable {w : World} {bp bh bk b0 b1 b2 bv : Nat} {nx : Value} {s : ShM} {l h d nb v n saw : Int}
theorem show_any (hp : Row w bp 85 (pendH bh nx s)) (hh : Row w bh 82 [.int .i64 l, .int .i64 h, .int .i64 d, .int .i64 nb, .pointer (some ⟨bk, 0, none⟩)]) (hn0 : 0 ≤ nb) (hn1 : nb ≤ 65532) : Calls Try.prog 39 #[.pointer (some ⟨bp, 0, none⟩)] w fun e w' => e = .returned (.tuple #[]) ∧ ∃ nx', Row w' bp 85 (pendH bh nx' s) ∧ S1H w' bp nx' nb ∧ Part [bp] w w' := by
  have hlt := hp.lt
  have hhl := hh.lt
  have p0' : (w.alloc (.cells #[.pointer (some ⟨bp, 0, none⟩)] 34)).cell? ⟨bp, 0, none⟩ = some (.pointer (some ⟨bh, 0, none⟩)) := (hp.alloc _).cell 0
  have s3' : (w.alloc (.cells #[.pointer (some ⟨bp, 0, none⟩)] 34)).cell? ⟨bh, 3, none⟩ = some (.int .i64 nb) := (hh.alloc _).cell 3
  have x0' : (w.alloc (.cells #[.pointer (some ⟨bp, 0, none⟩)] 34)).cell? ⟨w.heap.size, 0, none⟩ = some (.pointer (some ⟨bp, 0, none⟩)) := (Row.new w 34 [.pointer (some ⟨bp, 0, none⟩)]).cell 0
  have HP := Lib.hid hp
  have HH := Lib.hid hh
  have HN : Hid (bh ∉ [bp]) := Lib.hid (by simpa using hh.ne hp (by decide))
  have HNW : Hid (w.heap.size ∉ [bp]) := Lib.hid (by simp; omega)
  have wi : IntKind.i64.wrap (nb + 3) = nb + 3 := by rw [IntKind.wrap_i64]; omega
  clear hp hh
  go_enter Try.func39, Try.ntmps39
  go_upto_region 1 with fail
  go_region_held3 (fun w' => w'.cell? ⟨w.heap.size, 0, none⟩ = some (.pointer (some ⟨bp, 0, none⟩)) ∧ w'.cell? ⟨bp, 0, none⟩ = some (.pointer (some ⟨bh, 0, none⟩)) ∧ w'.cell? ⟨bh, 3, none⟩ = some (.int .i64 nb))
    (first | (with_reducible exact ⟨x0', p0', s3'⟩) | (exact ⟨x1, r0, t3⟩) | go_keep)
    (first | (go_at_call 63; (with_reducible refine (load_any (HP.out.alloc _).drew).mono ?_); rintro e w1 ⟨rfl, nx', hr, ha, hP⟩; have r0 : w1.cell? ⟨bp, 0, none⟩ = some (.pointer (some ⟨bh, 0, none⟩)) := hr.cell 0; have t3 := ((HH.out.alloc _).drew.part hP HN.out).cell 3; have x1 := ((Row.new w 34 [.pointer (some ⟨bp, 0, none⟩)]).drew.part hP HNW.out).cell 0; have HR := Lib.hid hr; have HA := Lib.hid ha; have HQ := Lib.hid hP; clear hr ha hP))
  all_goals
    go_wp2_with fail
    go_end0
    exact ⟨rfl, nx', HR.out, ⟨_, HA.out, (Row.new w 34 [.pointer (some ⟨bp, 0, none⟩)]).drew.part HQ.out HNW.out⟩, (((Part.refl [bp] w).alloc _).drew).then_ HQ.out⟩
theorem gather_any {A : Option Addr} {k cap : Nat} (hp : Row w bp 85 (pendH bh nx s)) (hbv : s.bv = .slice A k cap) : Calls Try.prog 68 #[.pointer (some ⟨bp, 0, none⟩)] w fun e w' => e = .returned (.tuple #[]) ∧ ∃ nx', Row w' bp 85 (pendH bh nx' s) ∧ GatH w' bp nx' (k : Int) ∧ Part [bp] w w' := by
  have hlt := hp.lt
  have p6' : (w.alloc (.cells #[.pointer (some ⟨bp, 0, none⟩)] 34)).cell? ⟨bp, 6, none⟩ = some (.slice A k cap) := by rw [← hbv]; exact (hp.alloc _).cell 6
  have x0' : (w.alloc (.cells #[.pointer (some ⟨bp, 0, none⟩)] 34)).cell? ⟨w.heap.size, 0, none⟩ = some (.pointer (some ⟨bp, 0, none⟩)) := (Row.new w 34 [.pointer (some ⟨bp, 0, none⟩)]).cell 0
  have HP := Lib.hid hp
  have HNW : Hid (w.heap.size ∉ [bp]) := Lib.hid (by simp; omega)
  have HBV := Lib.hid hbv
  clear hp hbv
  go_enter Try.func68, Try.ntmps68
  go_upto_region 1 with fail
  go_region_held3 (fun w' => w'.cell? ⟨w.heap.size, 0, none⟩ = some (.pointer (some ⟨bp, 0, none⟩)) ∧ w'.cell? ⟨bp, 6, none⟩ = some (.slice A k cap))
    (first | (with_reducible exact ⟨x0', p6'⟩) | (exact ⟨x1, t6⟩) | go_keep)
    (first | (go_at_call 63; (with_reducible refine (load_any (HP.out.alloc _).drew).mono ?_); rintro e w1 ⟨rfl, nx', hr, ha, hP⟩; have r0 : w1.cell? ⟨bp, 0, none⟩ = some (.pointer (some ⟨bh, 0, none⟩)) := hr.cell 0; have t6 : w1.cell? ⟨bp, 6, none⟩ = some (.slice A k cap) := (hr.cell 6).trans (congrArg some HBV.out); have x1 := ((Row.new w 34 [.pointer (some ⟨bp, 0, none⟩)]).drew.part hP HNW.out).cell 0; have HR := Lib.hid hr; have HA := Lib.hid ha; have HQ := Lib.hid hP; clear hr ha hP))
  all_goals
    go_wp2_with fail
    go_end0
    exact ⟨rfl, nx', HR.out, ⟨_, HA.out, (Row.new w 34 [.pointer (some ⟨bp, 0, none⟩)]).drew.part HQ.out HNW.out⟩, (((Part.refl [bp] w).alloc _).drew).then_ HQ.out⟩
theorem show1_any (hp : Row w bp 85 (pendH bh nx s)) (hh : Row w bh 82 [.int .i64 l, .int .i64 h, .int .i64 d, .int .i64 nb, .pointer (some ⟨bk, 0, none⟩)]) (hb : Row w b0 34 [.pointer (some ⟨bp, 0, none⟩)]) (hn0 : 0 ≤ nb) (hn1 : nb ≤ 65532) : Calls Try.prog 64 #[.int .u64 saw, .pointer (some ⟨b0, 0, none⟩)] w fun e w' => e = .returned (.tuple #[]) ∧ ∃ nx', Row w' bp 85 (pendH bh nx' { s with c := saw }) ∧ S2H w' bp nx' nb ∧ Part [bp] w w' := by
  have hlt := hp.lt
  have hbl := hb.lt
  have hf := hp.free
  have c0 : w.cell? ⟨b0, 0, none⟩ = some (.pointer (some ⟨bp, 0, none⟩)) := hb.cell 0
  have pi : w.cell? ⟨bp, 2, none⟩ = some (.int .u64 s.c) := hp.cell 2
  have nbp : b0 ≠ bp := hb.ne hp (by decide)
  have nhp : bh ≠ bp := hh.ne hp (by decide)
  have hp1 : Row (w.setCell ⟨bp, 2, none⟩ (.int .u64 (saw))) bp 85 (pendH bh nx { s with c := saw }) := Row.of_eq (hp.set 2 _) rfl
  have hb1 : Row (w.setCell ⟨bp, 2, none⟩ (.int .u64 (saw))) b0 34 [.pointer (some ⟨bp, 0, none⟩)] := hb.far (fun e => nbp e.symm) _
  have hh1 : Row (w.setCell ⟨bp, 2, none⟩ (.int .u64 (saw))) bh 82 [.int .i64 l, .int .i64 h, .int .i64 d, .int .i64 nb, .pointer (some ⟨bk, 0, none⟩)] := hh.far (fun e => nhp e.symm) _
  have c0' := hb1.cell 0
  have p0' : (w.setCell ⟨bp, 2, none⟩ (.int .u64 (saw))).cell? ⟨bp, 0, none⟩ = some (.pointer (some ⟨bh, 0, none⟩)) := hp1.cell 0
  have s3' : (w.setCell ⟨bp, 2, none⟩ (.int .u64 (saw))).cell? ⟨bh, 3, none⟩ = some (.int .i64 nb) := hh1.cell 3
  have HP := Lib.hid hp1
  have HH := Lib.hid hh1
  have HB := Lib.hid hb1
  have HNB := Lib.hid nbp
  have HN : Hid (bh ∉ [bp]) := Lib.hid (by simpa using nhp)
  have wi : IntKind.i64.wrap (nb + 1) = nb + 1 := by rw [IntKind.wrap_i64]; omega
  clear hp hh hb hp1 hh1 hb1 nbp nhp
  go_enter Try.func64, Try.ntmps64
  go_upto_region 1 with fail
  go_region_held3 (fun w' => w'.cell? ⟨b0, 0, none⟩ = some (.pointer (some ⟨bp, 0, none⟩)) ∧ w'.cell? ⟨bp, 0, none⟩ = some (.pointer (some ⟨bh, 0, none⟩)) ∧ w'.cell? ⟨bh, 3, none⟩ = some (.int .i64 nb))
    (first | (with_reducible exact ⟨c0', p0', s3'⟩) | (exact ⟨x1, r0, t3⟩) | go_keep)
    (first | (go_at_call 63; (with_reducible refine (load_any HP.out.drew).mono ?_); rintro e w1 ⟨rfl, nx', hr, ha, hP⟩; have r0 : w1.cell? ⟨bp, 0, none⟩ = some (.pointer (some ⟨bh, 0, none⟩)) := hr.cell 0; have t3 := (HH.out.drew.part hP HN.out).cell 3; have x1 := (HB.out.drew.part hP (by simpa using HNB.out)).cell 0; have HR := Lib.hid hr; have HA := Lib.hid ha; have HQ := Lib.hid hP; clear hr ha hP))
  all_goals
    go_wp2_with fail
    go_end0
    exact ⟨rfl, nx', HR.out, ⟨b0, HA.out, HB.out.drew.part HQ.out (by simpa using HNB.out)⟩, ((Part.set (Part.refl [bp] w) (by simp) _).drew).then_ HQ.out⟩
theorem show2_any (hp : Row w bp 85 (pendH bh nx s)) (hh : Row w bh 82 [.int .i64 l, .int .i64 h, .int .i64 d, .int .i64 nb, .pointer (some ⟨bk, 0, none⟩)]) (hb : Row w b0 34 [.pointer (some ⟨bp, 0, none⟩)]) (hn0 : 0 ≤ nb) (hn1 : nb ≤ 65532) : Calls Try.prog 65 #[.int .u64 saw, .pointer (some ⟨b0, 0, none⟩)] w fun e w' => e = .returned (.tuple #[]) ∧ ∃ nx', Row w' bp 85 (pendH bh nx' { s with le := wrap64 saw }) ∧ S3H w' bp nx' nb ∧ Part [bp] w w' := by
  have hlt := hp.lt
  have hbl := hb.lt
  have hf := hp.free
  have c0 : w.cell? ⟨b0, 0, none⟩ = some (.pointer (some ⟨bp, 0, none⟩)) := hb.cell 0
  have pi : w.cell? ⟨bp, 4, none⟩ = some (.int .i64 s.le) := hp.cell 4
  have nbp : b0 ≠ bp := hb.ne hp (by decide)
  have nhp : bh ≠ bp := hh.ne hp (by decide)
  have hp1 : Row (w.setCell ⟨bp, 4, none⟩ (.int .i64 (wrap64 saw))) bp 85 (pendH bh nx { s with le := wrap64 saw }) := Row.of_eq (hp.set 4 _) rfl
  have hb1 : Row (w.setCell ⟨bp, 4, none⟩ (.int .i64 (wrap64 saw))) b0 34 [.pointer (some ⟨bp, 0, none⟩)] := hb.far (fun e => nbp e.symm) _
  have hh1 : Row (w.setCell ⟨bp, 4, none⟩ (.int .i64 (wrap64 saw))) bh 82 [.int .i64 l, .int .i64 h, .int .i64 d, .int .i64 nb, .pointer (some ⟨bk, 0, none⟩)] := hh.far (fun e => nhp e.symm) _
  have c0' := hb1.cell 0
  have p0' : (w.setCell ⟨bp, 4, none⟩ (.int .i64 (wrap64 saw))).cell? ⟨bp, 0, none⟩ = some (.pointer (some ⟨bh, 0, none⟩)) := hp1.cell 0
  have s3' : (w.setCell ⟨bp, 4, none⟩ (.int .i64 (wrap64 saw))).cell? ⟨bh, 3, none⟩ = some (.int .i64 nb) := hh1.cell 3
  have HP := Lib.hid hp1
  have HH := Lib.hid hh1
  have HB := Lib.hid hb1
  have HNB := Lib.hid nbp
  have HN : Hid (bh ∉ [bp]) := Lib.hid (by simpa using nhp)
  have wi : IntKind.i64.wrap (nb + 2) = nb + 2 := by rw [IntKind.wrap_i64]; omega
  clear hp hh hb hp1 hh1 hb1 nbp nhp
  go_enter Try.func65, Try.ntmps65
  go_upto_region 1 with fail
  go_region_held3 (fun w' => w'.cell? ⟨b0, 0, none⟩ = some (.pointer (some ⟨bp, 0, none⟩)) ∧ w'.cell? ⟨bp, 0, none⟩ = some (.pointer (some ⟨bh, 0, none⟩)) ∧ w'.cell? ⟨bh, 3, none⟩ = some (.int .i64 nb))
    (first | (with_reducible exact ⟨c0', p0', s3'⟩) | (exact ⟨x1, r0, t3⟩) | go_keep)
    (first | (go_at_call 63; (with_reducible refine (load_any HP.out.drew).mono ?_); rintro e w1 ⟨rfl, nx', hr, ha, hP⟩; have r0 : w1.cell? ⟨bp, 0, none⟩ = some (.pointer (some ⟨bh, 0, none⟩)) := hr.cell 0; have t3 := (HH.out.drew.part hP HN.out).cell 3; have x1 := (HB.out.drew.part hP (by simpa using HNB.out)).cell 0; have HR := Lib.hid hr; have HA := Lib.hid ha; have HQ := Lib.hid hP; clear hr ha hP))
  all_goals
    go_wp2_with fail
    go_end0
    exact ⟨rfl, nx', HR.out, ⟨b0, HA.out, HB.out.drew.part HQ.out (by simpa using HNB.out)⟩, ((Part.set (Part.refl [bp] w) (by simp) _).drew).then_ HQ.out⟩
theorem show3_any (hp : Row w bp 85 (pendH bh nx s)) (hh : Row w bh 82 [.int .i64 l, .int .i64 h, .int .i64 d, .int .i64 nb, .pointer (some ⟨bk, 0, none⟩)]) (hb : Row w b0 34 [.pointer (some ⟨bp, 0, none⟩)]) (hn0 : 0 ≤ nb) (hn1 : nb ≤ 65532) : Calls Try.prog 66 #[.int .u64 saw, .pointer (some ⟨b0, 0, none⟩)] w fun e w' => e = .returned (.tuple #[]) ∧ ∃ nx', Row w' bp 85 (pendH bh nx' { s with gr := wrap64 (wrap64 saw - 1) }) ∧ S4H w' bp nx' nb ∧ Part [bp] w w' := by
  have hlt := hp.lt
  have hbl := hb.lt
  have hf := hp.free
  have c0 : w.cell? ⟨b0, 0, none⟩ = some (.pointer (some ⟨bp, 0, none⟩)) := hb.cell 0
  have pi : w.cell? ⟨bp, 5, none⟩ = some (.int .i64 s.gr) := hp.cell 5
  have nbp : b0 ≠ bp := hb.ne hp (by decide)
  have nhp : bh ≠ bp := hh.ne hp (by decide)
  have hp1 : Row (w.setCell ⟨bp, 5, none⟩ (.int .i64 (wrap64 (wrap64 saw - 1)))) bp 85 (pendH bh nx { s with gr := wrap64 (wrap64 saw - 1) }) := Row.of_eq (hp.set 5 _) rfl
  have hb1 : Row (w.setCell ⟨bp, 5, none⟩ (.int .i64 (wrap64 (wrap64 saw - 1)))) b0 34 [.pointer (some ⟨bp, 0, none⟩)] := hb.far (fun e => nbp e.symm) _
  have hh1 : Row (w.setCell ⟨bp, 5, none⟩ (.int .i64 (wrap64 (wrap64 saw - 1)))) bh 82 [.int .i64 l, .int .i64 h, .int .i64 d, .int .i64 nb, .pointer (some ⟨bk, 0, none⟩)] := hh.far (fun e => nhp e.symm) _
  have c0' := hb1.cell 0
  have p0' : (w.setCell ⟨bp, 5, none⟩ (.int .i64 (wrap64 (wrap64 saw - 1)))).cell? ⟨bp, 0, none⟩ = some (.pointer (some ⟨bh, 0, none⟩)) := hp1.cell 0
  have s3' : (w.setCell ⟨bp, 5, none⟩ (.int .i64 (wrap64 (wrap64 saw - 1)))).cell? ⟨bh, 3, none⟩ = some (.int .i64 nb) := hh1.cell 3
  have HP := Lib.hid hp1
  have HH := Lib.hid hh1
  have HB := Lib.hid hb1
  have HNB := Lib.hid nbp
  have HN : Hid (bh ∉ [bp]) := Lib.hid (by simpa using nhp)
  have wi : IntKind.i64.wrap (nb + 0) = nb := by rw [IntKind.wrap_i64]; omega
  have wi' : IntKind.i64.wrap nb = nb := by rw [IntKind.wrap_i64]; omega
  clear hp hh hb hp1 hh1 hb1 nbp nhp
  go_enter Try.func66, Try.ntmps66
  go_upto_region 1 with fail
  go_region_held3 (fun w' => w'.cell? ⟨b0, 0, none⟩ = some (.pointer (some ⟨bp, 0, none⟩)) ∧ w'.cell? ⟨bp, 0, none⟩ = some (.pointer (some ⟨bh, 0, none⟩)) ∧ w'.cell? ⟨bh, 3, none⟩ = some (.int .i64 nb))
    (first | (with_reducible exact ⟨c0', p0', s3'⟩) | (exact ⟨x1, r0, t3⟩) | go_keep)
    (first | (go_at_call 63; (with_reducible refine (load_any HP.out.drew).mono ?_); rintro e w1 ⟨rfl, nx', hr, ha, hP⟩; have r0 : w1.cell? ⟨bp, 0, none⟩ = some (.pointer (some ⟨bh, 0, none⟩)) := hr.cell 0; have t3 := (HH.out.drew.part hP HN.out).cell 3; have x1 := (HB.out.drew.part hP (by simpa using HNB.out)).cell 0; have HR := Lib.hid hr; have HA := Lib.hid ha; have HQ := Lib.hid hP; clear hr ha hP))
  all_goals
    go_wp2_with fail
    go_end0
    exact ⟨rfl, nx', HR.out, ⟨b0, HA.out, HB.out.drew.part HQ.out (by simpa using HNB.out)⟩, ((Part.set (Part.refl [bp] w) (by simp) _).drew).then_ HQ.out⟩
end
end Go.Proofs.Ytiifhkfkcljoiaa
