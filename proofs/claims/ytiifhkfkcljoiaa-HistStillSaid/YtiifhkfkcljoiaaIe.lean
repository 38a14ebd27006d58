/- THE WALKS of package hist: the list of buckets is made; a bucket is gathered. -/
import Derived.Test.YtiifhkfkcljoiaaId
import Derived.Deep.RegionLaw
import Derived.Laws.MakeOwn
namespace Go.Proofs.Ytiifhkfkcljoiaa
open Go Go.RowKit
set_option maxRecDepth 100000
set_option maxHeartbeats 1600000
theorem make_u64 (w : World) {m : Nat} (hm : m ≤ 65532) : (Instr.makeSlice 42 (.int .i64 0) (.int .i64 (m : Int))).run Try.prog w = .ok (.slice (some ⟨w.heap.size, 0, none⟩) 0 m) (w.alloc (.cells (u64s (List.replicate m 0)).toArray 38)) := by
  obtain ⟨iu, hiu, hu0, hu1, hu2⟩ := info_parts info29
  have := run_make (P := Try.prog) w 42 38 iu (.int .u64 0) Try.underlying42 hiu hu0 .i64 .i64 0 (m : Int) (by omega) (by omega) (by rw [hu2]; omega) (by omega)
  rw [this, hu1]
  simp only [Int.toNat_natCast, Int.toNat_zero]
  congr 3
  rw [← noughts29]
section
variable {w : World} {bp bh bk b0 bb m : Nat} {nx : Value} {s : ShM} {l h d saw : Int}
theorem show4_any (hp : Row w bp 85 (pendH bh nx s)) (hh : Row w bh 82 [.int .i64 l, .int .i64 h, .int .i64 d, .int .i64 (m : Int), .pointer (some ⟨bk, 0, none⟩)]) (hb : Row w b0 34 [.pointer (some ⟨bp, 0, none⟩)]) (hm : m ≤ 65532) : Calls Try.prog 67 #[.int .u64 saw, .pointer (some ⟨b0, 0, none⟩)] w fun e w' => e = .returned (.tuple #[]) ∧ ∃ nx' bb, Row w' bp 85 (pendH bh nx' { s with su := saw, bv := .slice (some ⟨bb, 0, none⟩) 0 m }) ∧ GatH w' bp nx' 0 ∧ Row w' bb 38 (u64s (List.replicate m 0)) ∧ w.heap.size ≤ bb ∧ Part [bp] w w' := by
  have hlt := hp.lt
  have hbl := hb.lt
  have hhl := hh.lt
  have hf := hp.free
  have c0 : w.cell? ⟨b0, 0, none⟩ = some (.pointer (some ⟨bp, 0, none⟩)) := hb.cell 0
  have p3 : w.cell? ⟨bp, 3, none⟩ = some (.int .u64 s.su) := hp.cell 3
  have p6 : w.cell? ⟨bp, 6, none⟩ = some s.bv := hp.cell 6
  have p0 : w.cell? ⟨bp, 0, none⟩ = some (.pointer (some ⟨bh, 0, none⟩)) := hp.cell 0
  have s3 : w.cell? ⟨bh, 3, none⟩ = some (.int .i64 (m : Int)) := hh.cell 3
  have nbp : ¬ b0 = bp := hb.ne hp (by decide)
  have nbp' : ¬ bp = b0 := fun e => nbp e.symm
  have nhp : ¬ bh = bp := hh.ne hp (by decide)
  have nhp' : ¬ bp = bh := fun e => nhp e.symm
  have hp1 : Row (w.setCell ⟨bp, 3, none⟩ (.int .u64 saw)) bp 85 (pendH bh nx { s with su := saw }) := Row.of_eq (hp.set 3 _) rfl
  have hb1 : Row (w.setCell ⟨bp, 3, none⟩ (.int .u64 saw)) b0 34 [.pointer (some ⟨bp, 0, none⟩)] := hb.far (fun e => nbp e.symm) _
  have hh1 : Row (w.setCell ⟨bp, 3, none⟩ (.int .u64 saw)) bh 82 [.int .i64 l, .int .i64 h, .int .i64 d, .int .i64 (m : Int), .pointer (some ⟨bk, 0, none⟩)] := hh.far (fun e => nhp e.symm) _
  have c0' := hb1.cell 0
  have p0' : (w.setCell ⟨bp, 3, none⟩ (.int .u64 saw)).cell? ⟨bp, 0, none⟩ = some (.pointer (some ⟨bh, 0, none⟩)) := hp1.cell 0
  have s3' : (w.setCell ⟨bp, 3, none⟩ (.int .u64 saw)).cell? ⟨bh, 3, none⟩ = some (.int .i64 (m : Int)) := hh1.cell 3
  have HP := Lib.hid hp1
  have HB := Lib.hid hb1
  have hmk := fun w => make_u64 w hm
  have hq := Row.of_eq ((hp1.set 6 (.slice (some ⟨w.heap.size, 0, none⟩) 0 m)).alloc (.cells (u64s (List.replicate m 0)).toArray 38)) (show _ = pendH bh nx { s with su := saw, bv := .slice (some ⟨w.heap.size, 0, none⟩) 0 m } from rfl)
  have q0 := ((hb1.far (p := ⟨bp, 6, none⟩) (fun e => nbp e.symm) (.slice (some ⟨w.heap.size, 0, none⟩) 0 m)).alloc (.cells (u64s (List.replicate m 0)).toArray 38)).cell 0
  have q1 : (((w.setCell ⟨bp, 3, none⟩ (.int .u64 saw)).setCell ⟨bp, 6, none⟩ (.slice (some ⟨w.heap.size, 0, none⟩) 0 m)).alloc (.cells (u64s (List.replicate m 0)).toArray 38)).cell? ⟨bp, 0, none⟩ = some (.pointer (some ⟨bh, 0, none⟩)) := hq.cell 0
  have q2 := ((hh1.far (p := ⟨bp, 6, none⟩) (fun e => nhp e.symm) (.slice (some ⟨w.heap.size, 0, none⟩) 0 m)).alloc (.cells (u64s (List.replicate m 0)).toArray 38)).cell 3
  have hr := Row.new ((w.setCell ⟨bp, 3, none⟩ (.int .u64 saw)).setCell ⟨bp, 6, none⟩ (.slice (some ⟨w.heap.size, 0, none⟩) 0 m)) 38 (u64s (List.replicate m 0))
  have HQ0 := Lib.hid hq
  have HR0 := Lib.hid hr
  clear hq hr
  clear hp hh hb hp1 hh1 hb1
  go_enter Try.func67, Try.ntmps67
  go_upto_region 1 with fail
  go_region_held3 (fun w' => w'.cell? ⟨b0, 0, none⟩ = some (.pointer (some ⟨bp, 0, none⟩)) ∧ w'.cell? ⟨bp, 0, none⟩ = some (.pointer (some ⟨bh, 0, none⟩)) ∧ w'.cell? ⟨bh, 3, none⟩ = some (.int .i64 (m : Int)))
    (first | (with_reducible exact ⟨c0', p0', s3'⟩) | (exact ⟨q0, q1, q2⟩) | go_keep)
    (fail)
  all_goals
    go_wp2_with (go_at_call 68; (with_reducible refine (gather_any HQ0.out.drew rfl).mono ?_); rintro e w1 ⟨rfl, nx', hr, ha, hP⟩; have HR := Lib.hid hr; have HA := Lib.hid ha; have HQ := Lib.hid hP; clear hr ha hP)
    go_end0
    refine ⟨rfl, nx', w.heap.size, HR.out, HA.out, ?_, Nat.le_refl _, ?_⟩
    · have h := HR0.out
      simp only [World.size_setCell] at h
      exact h.drew.part HQ.out (by simp; omega)
    · exact ((((Part.refl [bp] w).set (by simp) _).set (by simp) _).alloc _).drew.then_ HQ.out
end
end Go.Proofs.Ytiifhkfkcljoiaa
