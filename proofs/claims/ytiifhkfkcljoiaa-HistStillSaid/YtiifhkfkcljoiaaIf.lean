/- THE WALKS of package hist: a bucket is gathered. -/
import Derived.Test.YtiifhkfkcljoiaaIe
import Derived.Deep.RegionLaw
import Derived.Deep.AppendLies
import Derived.Laws.MakeOwn
namespace Go.Proofs.Ytiifhkfkcljoiaa
open Go Go.RowKit
set_option maxRecDepth 100000
set_option maxHeartbeats 1600000
theorem snoc_list {bu : List Int} {m : Nat} {saw : Int} (h : bu.length < m) : (u64s (bu ++ List.replicate (m - bu.length) 0)).set (0 + bu.length * 1) (.int .u64 saw) = u64s ((bu ++ [saw]) ++ List.replicate (m - (bu ++ [saw]).length) 0) := by
  have e : m - bu.length = (m - (bu ++ [saw]).length) + 1 := by simp; omega
  rw [e, List.replicate_succ]
  simp [u64s]
structure GatRows (w wz : World) (bp bh bk b0 bb m : Nat) (nx : Value) (s : ShM) (l h d : Int) (bu : List Int) (saw : Int) : Prop where
  p : Row wz bp 85 (pendH bh nx s)
  h : Row wz bh 82 [.int .i64 l, .int .i64 h, .int .i64 d, .int .i64 (m : Int), .pointer (some ⟨bk, 0, none⟩)]
  b : Row wz b0 34 [.pointer (some ⟨bp, 0, none⟩)]
  r : Row wz bb 38 (u64s ((bu ++ [saw]) ++ List.replicate (m - (bu ++ [saw]).length) 0))
  part : Part [bb] w wz
theorem gat_rows {w W0 wz : World} {bp bh bk b0 bb m : Nat} {nx : Value} {s : ShM} {l h d saw : Int} {bu : List Int} (hz : W0.setCells bb (0 + bu.length * 1) [.int .u64 saw] = wz) (hw : Part [bb] w W0) (hp : Row W0 bp 85 (pendH bh nx s)) (hh : Row W0 bh 82 [.int .i64 l, .int .i64 h, .int .i64 d, .int .i64 (m : Int), .pointer (some ⟨bk, 0, none⟩)]) (hb : Row W0 b0 34 [.pointer (some ⟨bp, 0, none⟩)]) (hr : Row W0 bb 38 (u64s (bu ++ List.replicate (m - bu.length) 0))) (hm : bu.length < m) : GatRows w wz bp bh bk b0 bb m nx s l h d bu saw := by
  subst hz
  have e : W0.setCells bb (0 + bu.length * 1) [.int .u64 saw] = W0.setCell ⟨bb, 0 + bu.length * 1, none⟩ (.int .u64 saw) := rfl
  rw [e]
  exact ⟨hp.far (hr.ne hp (by decide)) _, hh.far (hr.ne hh (by decide)) _, hb.far (hr.ne hb (by decide)) _, Row.of_eq (hr.set _ _) (snoc_list hm), hw.set (by simp) _⟩
theorem Row.drewN {w : World} {b : Nat} {t : TypeId} {l : List Value} (h : Row w b t l) (n : Nat) : Row (w.drewN n) b t l := h
section
variable {w : World} {bp bh bk b0 bb m : Nat} {nx : Value} {s : ShM} {l h d saw : Int} {bu : List Int}
/-- behind the append: what was gathered stands in its block -/
def MidGat (w : World) (bp bh bk b0 bb m : Nat) (nx : Value) (s : ShM) (l h d : Int) (bu : List Int) (saw : Int) (wx : World) : Prop :=
  Row wx bp 85 (pendH bh nx { s with bv := .slice (some ⟨bb, 0, none⟩) (bu.length + 1) m }) ∧ Row wx bh 82 [.int .i64 l, .int .i64 h, .int .i64 d, .int .i64 (m : Int), .pointer (some ⟨bk, 0, none⟩)] ∧ Row wx b0 34 [.pointer (some ⟨bp, 0, none⟩)] ∧ Row wx bb 38 (u64s ((bu ++ [saw]) ++ List.replicate (m - (bu ++ [saw]).length) 0)) ∧ Part [bp, bb] w wx
theorem GatRows.mid {wz : World} (hz : GatRows w wz bp bh bk b0 bb m nx s l h d bu saw) : MidGat w bp bh bk b0 bb m nx s l h d bu saw (wz.setCell ⟨bp, 6, none⟩ (.slice (some ⟨bb, 0, none⟩) (bu.length + 1) m)) :=
  ⟨Row.of_eq (hz.p.set 6 _) rfl, hz.h.far (hz.p.ne hz.h (by decide)) _, hz.b.far (hz.p.ne hz.b (by decide)) _, hz.r.far (hz.p.ne hz.r (by decide)) _, (hz.part.mono (S' := [bp, bb]) (fun q _ hm => by simp at hm; simp [hm])).set (by simp) _⟩
theorem gather1_more (hp : Row w bp 85 (pendH bh nx s)) (hh : Row w bh 82 [.int .i64 l, .int .i64 h, .int .i64 d, .int .i64 (m : Int), .pointer (some ⟨bk, 0, none⟩)]) (hb : Row w b0 34 [.pointer (some ⟨bp, 0, none⟩)]) (hv : s.bv = .slice (some ⟨bb, 0, none⟩) bu.length m) (hr : Row w bb 38 (u64s (bu ++ List.replicate (m - bu.length) 0))) (hm : m ≤ 65532) (hlm : bu.length < m) (hl2 : bu.length + 1 < m) : Calls Try.prog 87 #[.int .u64 saw, .pointer (some ⟨b0, 0, none⟩)] w fun e w' => e = .returned (.tuple #[]) ∧ ∃ nx', Row w' bp 85 (pendH bh nx' { s with bv := .slice (some ⟨bb, 0, none⟩) (bu.length + 1) m }) ∧ GatH w' bp nx' ((bu.length + 1 : Nat) : Int) ∧ Row w' bb 38 (u64s ((bu ++ [saw]) ++ List.replicate (m - (bu ++ [saw]).length) 0)) ∧ Part [bp, bb] w w' := by
  have hlt := hp.lt
  have hbl := hb.lt
  have hrl := hr.lt
  have c0 : w.cell? ⟨b0, 0, none⟩ = some (.pointer (some ⟨bp, 0, none⟩)) := hb.cell 0
  have p6 : w.cell? ⟨bp, 6, none⟩ = some (.slice (some ⟨bb, 0, none⟩) bu.length m) := (hp.cell 6).trans (congrArg some hv)
  obtain ⟨i0, hi, hz0, hz1, hz2⟩ := info_parts info29
  have HP := Lib.hid hp
  have HH := Lib.hid hh
  have HB := Lib.hid hb
  have HRW := Lib.hid hr
  have HV := Lib.hid hv
  have HM := Lib.hid hm
  have HLT := Lib.hid hlm
  have hsp : ∀ j, j < [(Value.int .u64 saw)].length → ((w.alloc (.cells #[.int .u64 saw] 38)).drew.cell? ⟨bb, 0 + bu.length * 1 + j, none⟩).isSome = true ∧ (w.alloc (.cells #[.int .u64 saw] 38)).drew.frozen? ⟨bb, 0 + bu.length * 1 + j, none⟩ = false := fun j hj => by
    obtain rfl : j = 0 := by simpa using hj
    have hr2 := (hr.alloc (.cells #[.int .u64 saw] 38)).drew
    refine ⟨?_, hr2.free _⟩
    rw [hr2.cell, u64s_get, List.getElem?_append_right (by simp)]
    simp
    omega
  have HSP := Lib.hid hsp
  have hroom : bu.length + 1 ≤ m := by omega
  have HL2 := Lib.hid hl2
  clear hp hh hb hv hr hsp hl2
  go_enter Try.func87, Try.ntmps87
  go_upto_region 0 with fail
  go_cut [] (fun wx => MidGat w bp bh bk b0 bb m nx s l h d bu saw wx)
  case first =>
    go_region_law
      ((refine step_append_room (by rfl) _ _ _ (by rfl) 38 i0 1 Try.underlying42 hi hz1 bb 0 bu.length m (by rfl) ⟨w.heap.size, 0, none⟩ 1 1 [.int .u64 saw] (by rfl) (by rfl) (World.news_of_block (cs := #[.int .u64 saw]) (t := 38) (fr := (0, 0)) (heap_alloc_new w _)) (by simp [Value.oneCell']) hroom HSP.out ?_; generalize hwz : World.setCells _ bb (0 + bu.length * 1) [.int .u64 saw] = wz; have HZ := Lib.hid (gat_rows (w := w) hwz (((Part.refl [bb] w).alloc _).drew) ((HP.out.alloc _).drew) ((HH.out.alloc _).drew) ((HB.out.alloc _).drew) ((HRW.out.alloc _).drew) HLT.out); have y0 := HZ.out.b.cell 0; have y6 : wz.cell? ⟨bp, 6, none⟩ = some (.slice (some ⟨bb, 0, none⟩) bu.length m) := (HZ.out.p.cell 6).trans (congrArg some HV.out); have yf := HZ.out.p.free; have yl := HZ.out.p.lt; have yn : ¬ bp = b0 := HZ.out.p.ne HZ.out.b (by decide); clear hwz))
    all_goals
      go_wp2_with fail
      go_meet
      first | exact HZ.out.mid | (trace_state; fail)
  case rest =>
    obtain ⟨hp, hh, hb, hr, hP⟩ := hcut
    have c0 : wc.cell? ⟨b0, 0, none⟩ = some (.pointer (some ⟨bp, 0, none⟩)) := hb.cell 0
    have p6 : wc.cell? ⟨bp, 6, none⟩ = some (.slice (some ⟨bb, 0, none⟩) (bu.length + 1) m) := hp.cell 6
    have p0 : wc.cell? ⟨bp, 0, none⟩ = some (.pointer (some ⟨bh, 0, none⟩)) := hp.cell 0
    have s3 : wc.cell? ⟨bh, 3, none⟩ = some (.int .i64 (m : Int)) := hh.cell 3
    have HPC := Lib.hid hp
    have HRC := Lib.hid hr
    have HPP := Lib.hid hP
    clear hp hh hb hr hP
    have q1 : decide (((bu.length + 1 : Nat) : Int) < (m : Int)) = true := by have := HL2.out; simp; omega
    have q2 : decide ((bu.length : Int) + 1 < (m : Int)) = true := by have := HL2.out; simp; omega
    go_wp2
    go_quiet (fail)
    go_wp2_with (go_at_call 68; (with_reducible refine (gather_any (HPC.out.drewN _) rfl).mono ?_); rintro e w1 ⟨rfl, nx', hr, ha, hP⟩; have HR := Lib.hid hr; have HA := Lib.hid ha; have HQ := Lib.hid hP; clear hr ha hP)
    go_end0
    exact ⟨rfl, nx', HR.out, HA.out, (HRC.out.drewN _).part HQ.out (by simpa using HRC.out.ne HPC.out (by decide)), (HPP.out.drewN _).trans HQ.out (fun q _ hm => by simp at hm; simp [hm])⟩
theorem gather1_last (hp : Row w bp 85 (pendH bh nx s)) (hh : Row w bh 82 [.int .i64 l, .int .i64 h, .int .i64 d, .int .i64 (m : Int), .pointer (some ⟨bk, 0, none⟩)]) (hb : Row w b0 34 [.pointer (some ⟨bp, 0, none⟩)]) (hv : s.bv = .slice (some ⟨bb, 0, none⟩) bu.length m) (hr : Row w bb 38 (u64s (bu ++ List.replicate (m - bu.length) 0))) (hm : m ≤ 65532) (hlm : bu.length < m) (hl2 : bu.length + 1 = m) : Calls Try.prog 87 #[.int .u64 saw, .pointer (some ⟨b0, 0, none⟩)] w fun e w' => e = .returned (.tuple #[]) ∧ Row w' bp 85 (pendH bh .nilFunc { s with bv := .slice (some ⟨bb, 0, none⟩) (bu.length + 1) m }) ∧ Row w' bb 38 (u64s ((bu ++ [saw]) ++ List.replicate (m - (bu ++ [saw]).length) 0)) ∧ Part [bp, bb] w w' := by
  have hlt := hp.lt
  have hbl := hb.lt
  have hrl := hr.lt
  have c0 : w.cell? ⟨b0, 0, none⟩ = some (.pointer (some ⟨bp, 0, none⟩)) := hb.cell 0
  have p6 : w.cell? ⟨bp, 6, none⟩ = some (.slice (some ⟨bb, 0, none⟩) bu.length m) := (hp.cell 6).trans (congrArg some hv)
  obtain ⟨i0, hi, hz0, hz1, hz2⟩ := info_parts info29
  have HP := Lib.hid hp
  have HH := Lib.hid hh
  have HB := Lib.hid hb
  have HRW := Lib.hid hr
  have HV := Lib.hid hv
  have HM := Lib.hid hm
  have HLT := Lib.hid hlm
  have hsp : ∀ j, j < [(Value.int .u64 saw)].length → ((w.alloc (.cells #[.int .u64 saw] 38)).drew.cell? ⟨bb, 0 + bu.length * 1 + j, none⟩).isSome = true ∧ (w.alloc (.cells #[.int .u64 saw] 38)).drew.frozen? ⟨bb, 0 + bu.length * 1 + j, none⟩ = false := fun j hj => by
    obtain rfl : j = 0 := by simpa using hj
    have hr2 := (hr.alloc (.cells #[.int .u64 saw] 38)).drew
    refine ⟨?_, hr2.free _⟩
    rw [hr2.cell, u64s_get, List.getElem?_append_right (by simp)]
    simp
    omega
  have HSP := Lib.hid hsp
  have hroom : bu.length + 1 ≤ m := by omega
  have HL2 := Lib.hid hl2
  clear hp hh hb hv hr hsp hl2
  go_enter Try.func87, Try.ntmps87
  go_upto_region 0 with fail
  go_cut [] (fun wx => MidGat w bp bh bk b0 bb m nx s l h d bu saw wx)
  case first =>
    go_region_law
      ((refine step_append_room (by rfl) _ _ _ (by rfl) 38 i0 1 Try.underlying42 hi hz1 bb 0 bu.length m (by rfl) ⟨w.heap.size, 0, none⟩ 1 1 [.int .u64 saw] (by rfl) (by rfl) (World.news_of_block (cs := #[.int .u64 saw]) (t := 38) (fr := (0, 0)) (heap_alloc_new w _)) (by simp [Value.oneCell']) hroom HSP.out ?_; generalize hwz : World.setCells _ bb (0 + bu.length * 1) [.int .u64 saw] = wz; have HZ := Lib.hid (gat_rows (w := w) hwz (((Part.refl [bb] w).alloc _).drew) ((HP.out.alloc _).drew) ((HH.out.alloc _).drew) ((HB.out.alloc _).drew) ((HRW.out.alloc _).drew) HLT.out); have y0 := HZ.out.b.cell 0; have y6 : wz.cell? ⟨bp, 6, none⟩ = some (.slice (some ⟨bb, 0, none⟩) bu.length m) := (HZ.out.p.cell 6).trans (congrArg some HV.out); have yf := HZ.out.p.free; have yl := HZ.out.p.lt; have yn : ¬ bp = b0 := HZ.out.p.ne HZ.out.b (by decide); clear hwz))
    all_goals
      go_wp2_with fail
      go_meet
      first | exact HZ.out.mid | (trace_state; fail)
  case rest =>
    obtain ⟨hp, hh, hb, hr, hP⟩ := hcut
    have c0 : wc.cell? ⟨b0, 0, none⟩ = some (.pointer (some ⟨bp, 0, none⟩)) := hb.cell 0
    have p6 : wc.cell? ⟨bp, 6, none⟩ = some (.slice (some ⟨bb, 0, none⟩) (bu.length + 1) m) := hp.cell 6
    have p0 : wc.cell? ⟨bp, 0, none⟩ = some (.pointer (some ⟨bh, 0, none⟩)) := hp.cell 0
    have s3 : wc.cell? ⟨bh, 3, none⟩ = some (.int .i64 (m : Int)) := hh.cell 3
    have HPC := Lib.hid hp
    have HRC := Lib.hid hr
    have HPP := Lib.hid hP
    clear hp hh hb hr hP
    have q1 : decide (((bu.length + 1 : Nat) : Int) < (m : Int)) = false := by have := HL2.out; simp; omega
    have q2 : decide ((bu.length : Int) + 1 < (m : Int)) = false := by have := HL2.out; simp; omega
    go_wp2
    go_quiet (fail)
    go_wp2_with (go_at_call 62; (with_reducible refine (end_any (HPC.out.drewN _)).mono ?_); rintro e w1 ⟨rfl, hr, hP⟩; have HR := Lib.hid hr; have HQ := Lib.hid hP; clear hr hP)
    go_end0
    exact ⟨rfl, HR.out, (HRC.out.drewN _).part HQ.out (by simpa using HRC.out.ne HPC.out (by decide)), (HPP.out.drewN _).trans HQ.out (fun q _ hm => by simp at hm; simp [hm])⟩
end
end Go.Proofs.Ytiifhkfkcljoiaa
