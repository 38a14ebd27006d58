/- THE WALKS of package hist: who keeps the better of two words; load$1, add$1 over what the next function leaves. -/
import Derived.Test.YtiifhkfkcljoiaaIb
namespace Go.Proofs.Ytiifhkfkcljoiaa
open Go Go.RowKit
set_option maxRecDepth 100000
set_option maxHeartbeats 1600000
/-- what a function leaves that is handed what an action did: what comes next, the snapshot; it has turned the operation's block and those of T -/
def TellH (w : World) (bp bh : Nat) (T : List Nat) (G : World → Value → ShM → Prop) (e : Ending) (w' : World) : Prop := e = .returned (.tuple #[]) ∧ ∃ nx' s', Row w' bp 85 (pendH bh nx' s') ∧ G w' nx' s' ∧ Part (bp :: T) w w'
section
variable {w : World} {bp bh bk b0 b1 b2 bv : Nat} {nx : Value} {s : ShM} {l h d nb v n saw : Int} {bb bt bq bc bx : Nat} {k c saw' put : Int}
theorem keep_over_least (hp : Row w bp 85 (pendH bh nx s)) (hh : Row w bh 82 [.int .i64 l, .int .i64 h, .int .i64 d, .int .i64 nb, .pointer (some ⟨bk, 0, none⟩)]) (hk : KeepB w bp 84 (.func (.func 59) #[] #[.pointer (some ⟨b0, 0, none⟩), .pointer (some ⟨b1, 0, none⟩), .pointer (some ⟨b2, 0, none⟩)]) (nb + 1) v bb bt bq bc bx) (hb : RecB w bp v n b0 b1 b2) (hn0 : 0 ≤ nb) (hn1 : nb ≤ 65532) (ht : decide (v < saw) = false) :
    Calls Try.prog 94 #[.int .u64 saw, .pointer (some ⟨bb, 0, none⟩), .pointer (some ⟨bt, 0, none⟩), .pointer (some ⟨bq, 0, none⟩), .pointer (some ⟨bc, 0, none⟩), .pointer (some ⟨bx, 0, none⟩)] w fun e w' => e = .returned (.tuple #[]) ∧ ∃ nx', Row w' bp 85 (pendH bh nx' s) ∧ R3H w' bp nx' nb v n ∧ Part [bp] w w' := by
  obtain ⟨bv, k1, k2, k3, k4, k5, k6⟩ := hk
  have c1 : w.cell? ⟨bb, 0, none⟩ = some (fnB 84 bv) := k1.cell 0
  have c2 : w.cell? ⟨bt, 0, none⟩ = some (.func (.func 59) #[] #[.pointer (some ⟨b0, 0, none⟩), .pointer (some ⟨b1, 0, none⟩), .pointer (some ⟨b2, 0, none⟩)]) := k3.cell 0
  have c3 : w.cell? ⟨bq, 0, none⟩ = some (.pointer (some ⟨bp, 0, none⟩)) := k4.cell 0
  have c4 : w.cell? ⟨bc, 0, none⟩ = some (.int .i64 (nb + 1)) := k5.cell 0
  have c5 : w.cell? ⟨bx, 0, none⟩ = some (.int .u64 v) := k6.cell 0
  have l1 := k1.lt
  have l2 := k3.lt
  have l3 := k4.lt
  have l4 := k5.lt
  have l5 := k6.lt
  have HKV := Lib.hid k2
  have HP := Lib.hid hp
  have HH := Lib.hid hh
  have HB := Lib.hid hb
  have N0 := Lib.hid hn0
  have N1 := Lib.hid hn1
  have HT := Lib.hid ht
  clear hp hh hb k1 k2 k3 k4 k5 k6 hn0 hn1
  clear ht
  go_enter Try.func94, Try.ntmps94
  go_wp2_with (first
    | (go_at_call 84; (with_reducible refine (keepLeast1_any HKV.out).mono ?_); rw [HT.out]; rintro e wx ⟨rfl, rfl⟩)
    | (go_at_call 59; (with_reducible refine (record3_any HP.out HH.out HB.out N0.out N1.out).mono ?_); rintro e w1 ⟨rfl, nx', hr, ha, hP⟩; have HR := Lib.hid hr; have HA := Lib.hid ha; have HQ := Lib.hid hP; clear hr ha hP))
  exact bodyPost_ret (v := .tuple #[]) (by simp [results, Try.results94, go_sem]) rfl ⟨rfl, nx', HR.out, HA.out, HQ.out⟩
theorem keep_more_least (hp : Row w bp 85 (pendH bh nx s)) (hh : Row w bh 82 [.int .i64 l, .int .i64 h, .int .i64 d, .int .i64 nb, .pointer (some ⟨bk, 0, none⟩)]) (hk : KeepB w bp 84 (.func (.func 59) #[] #[.pointer (some ⟨b0, 0, none⟩), .pointer (some ⟨b1, 0, none⟩), .pointer (some ⟨b2, 0, none⟩)]) (nb + 1) v bb bt bq bc bx) (hb : RecB w bp v n b0 b1 b2) (hn0 : 0 ≤ nb) (hn1 : nb ≤ 65532) (ht : decide (v < saw) = true) :
    Calls Try.prog 94 #[.int .u64 saw, .pointer (some ⟨bb, 0, none⟩), .pointer (some ⟨bt, 0, none⟩), .pointer (some ⟨bq, 0, none⟩), .pointer (some ⟨bc, 0, none⟩), .pointer (some ⟨bx, 0, none⟩)] w fun e w' => e = .returned (.tuple #[]) ∧ ∃ nx', Row w' bp 85 (pendH bh nx' s) ∧ C2H w' bp nx' nb v n saw ∧ Part [bp] w w' := by
  obtain ⟨bv, k1, k2, k3, k4, k5, k6⟩ := hk
  have c1 : w.cell? ⟨bb, 0, none⟩ = some (fnB 84 bv) := k1.cell 0
  have c2 : w.cell? ⟨bt, 0, none⟩ = some (.func (.func 59) #[] #[.pointer (some ⟨b0, 0, none⟩), .pointer (some ⟨b1, 0, none⟩), .pointer (some ⟨b2, 0, none⟩)]) := k3.cell 0
  have c3 : w.cell? ⟨bq, 0, none⟩ = some (.pointer (some ⟨bp, 0, none⟩)) := k4.cell 0
  have c4 : w.cell? ⟨bc, 0, none⟩ = some (.int .i64 (nb + 1)) := k5.cell 0
  have c5 : w.cell? ⟨bx, 0, none⟩ = some (.int .u64 v) := k6.cell 0
  have l1 := k1.lt
  have l2 := k3.lt
  have l3 := k4.lt
  have l4 := k5.lt
  have l5 := k6.lt
  have HKV := Lib.hid k2
  have HP := Lib.hid hp
  have HH := Lib.hid hh
  have HB := Lib.hid hb
  have N0 := Lib.hid hn0
  have N1 := Lib.hid hn1
  have H1 := Lib.hid k1
  have H3 := Lib.hid k3
  have H4 := Lib.hid k4
  have H5 := Lib.hid k5
  have H6 := Lib.hid k6
  have M1 := Lib.hid (k1.ne hp (by decide))
  have M2 := Lib.hid (k2.ne hp (by decide))
  have M3 := Lib.hid (k3.ne hp (by decide))
  have M4 := Lib.hid (k4.ne hp (by decide))
  have M5 := Lib.hid (k5.ne hp (by decide))
  have M6 := Lib.hid (k6.ne hp (by decide))
  have HT := Lib.hid ht
  clear hp hh hb k1 k2 k3 k4 k5 k6 hn0 hn1
  clear ht
  go_enter Try.func94, Try.ntmps94
  go_wp2_with (first
    | (go_at_call 84; (with_reducible refine (keepLeast1_any HKV.out).mono ?_); rw [HT.out]; rintro e wx ⟨rfl, rfl⟩)
    | (go_at_call 81; (with_reducible refine (act_any HP.out).mono ?_); rintro e w1 ⟨rfl, nx', hr, ha, hP⟩; have HR := Lib.hid hr; have HA := Lib.hid ha; have HQ := Lib.hid hP; clear hr ha hP))
  go_end0
  have hoff : ∀ {b : Nat}, b ≠ bp → b ∉ [bp] := fun h => by simpa using h
  exact ⟨rfl, nx', HR.out, ⟨b0, b1, b2, ⟨bb, bt, bq, bc, bx, HA.out, bv, H1.out.part HQ.out (hoff M1.out), HKV.out.part HQ.out (hoff M2.out), H3.out.part HQ.out (hoff M3.out), H4.out.part HQ.out (hoff M4.out), H5.out.part HQ.out (hoff M5.out), H6.out.part HQ.out (hoff M6.out)⟩, HB.out.off HP.out HQ.out⟩, HQ.out⟩
theorem keep1_ok_least (hp : Row w bp 85 (pendH bh nx s)) (hh : Row w bh 82 [.int .i64 l, .int .i64 h, .int .i64 d, .int .i64 nb, .pointer (some ⟨bk, 0, none⟩)]) (hk : KeepB w bp 84 (.func (.func 59) #[] #[.pointer (some ⟨b0, 0, none⟩), .pointer (some ⟨b1, 0, none⟩), .pointer (some ⟨b2, 0, none⟩)]) (nb + 1) v bb bt bq bc bx) (hb : RecB w bp v n b0 b1 b2) (hn0 : 0 ≤ nb) (hn1 : nb ≤ 65532) :
    Calls Try.prog 95 #[.agg #[.int .u8 k, .int .i64 c, .int .u64 saw, .int .u64 put, .bool true], .pointer (some ⟨bt, 0, none⟩), .pointer (some ⟨bq, 0, none⟩), .pointer (some ⟨bc, 0, none⟩), .pointer (some ⟨bx, 0, none⟩), .pointer (some ⟨bb, 0, none⟩)] w fun e w' => e = .returned (.tuple #[]) ∧ ∃ nx', Row w' bp 85 (pendH bh nx' s) ∧ R3H w' bp nx' nb v n ∧ Part [bp] w w' := by
  obtain ⟨bv, k1, k2, k3, k4, k5, k6⟩ := hk
  have c1 : w.cell? ⟨bb, 0, none⟩ = some (fnB 84 bv) := k1.cell 0
  have c2 : w.cell? ⟨bt, 0, none⟩ = some (.func (.func 59) #[] #[.pointer (some ⟨b0, 0, none⟩), .pointer (some ⟨b1, 0, none⟩), .pointer (some ⟨b2, 0, none⟩)]) := k3.cell 0
  have c3 : w.cell? ⟨bq, 0, none⟩ = some (.pointer (some ⟨bp, 0, none⟩)) := k4.cell 0
  have c4 : w.cell? ⟨bc, 0, none⟩ = some (.int .i64 (nb + 1)) := k5.cell 0
  have c5 : w.cell? ⟨bx, 0, none⟩ = some (.int .u64 v) := k6.cell 0
  have l1 := k1.lt
  have l2 := k3.lt
  have l3 := k4.lt
  have l4 := k5.lt
  have l5 := k6.lt
  have HKV := Lib.hid k2
  have HP := Lib.hid hp
  have HH := Lib.hid hh
  have HB := Lib.hid hb
  have N0 := Lib.hid hn0
  have N1 := Lib.hid hn1
  clear hp hh hb k1 k2 k3 k4 k5 k6 hn0 hn1
  go_enter Try.func95, Try.ntmps95
  go_wp2_with (go_at_call 59; (with_reducible refine (record3_any (HP.out.alloc _) (HH.out.alloc _) (HB.out.alloc _) N0.out N1.out).mono ?_); rintro e w1 ⟨rfl, nx', hr, ha, hP⟩; have HR := Lib.hid hr; have HA := Lib.hid ha; have HQ := Lib.hid hP; clear hr ha hP)
  go_end0
  exact ⟨rfl, nx', HR.out, HA.out, ((Part.refl [bp] w).alloc _).then_ HQ.out⟩
theorem keep1_no_least (hp : Row w bp 85 (pendH bh nx s)) (hh : Row w bh 82 [.int .i64 l, .int .i64 h, .int .i64 d, .int .i64 nb, .pointer (some ⟨bk, 0, none⟩)]) (hk : KeepB w bp 84 (.func (.func 59) #[] #[.pointer (some ⟨b0, 0, none⟩), .pointer (some ⟨b1, 0, none⟩), .pointer (some ⟨b2, 0, none⟩)]) (nb + 1) v bb bt bq bc bx) (hb : RecB w bp v n b0 b1 b2) (hn0 : 0 ≤ nb) (hn1 : nb ≤ 65532) :
    Calls Try.prog 95 #[.agg #[.int .u8 k, .int .i64 c, .int .u64 saw, .int .u64 put, .bool false], .pointer (some ⟨bt, 0, none⟩), .pointer (some ⟨bq, 0, none⟩), .pointer (some ⟨bc, 0, none⟩), .pointer (some ⟨bx, 0, none⟩), .pointer (some ⟨bb, 0, none⟩)] w fun e w' => e = .returned (.tuple #[]) ∧ ∃ nx', Row w' bp 85 (pendH bh nx' s) ∧ R2H w' bp nx' nb v n ∧ Part [bp] w w' := by
  obtain ⟨bv, k1, k2, k3, k4, k5, k6⟩ := hk
  have c1 : w.cell? ⟨bb, 0, none⟩ = some (fnB 84 bv) := k1.cell 0
  have c2 : w.cell? ⟨bt, 0, none⟩ = some (.func (.func 59) #[] #[.pointer (some ⟨b0, 0, none⟩), .pointer (some ⟨b1, 0, none⟩), .pointer (some ⟨b2, 0, none⟩)]) := k3.cell 0
  have c3 : w.cell? ⟨bq, 0, none⟩ = some (.pointer (some ⟨bp, 0, none⟩)) := k4.cell 0
  have c4 : w.cell? ⟨bc, 0, none⟩ = some (.int .i64 (nb + 1)) := k5.cell 0
  have c5 : w.cell? ⟨bx, 0, none⟩ = some (.int .u64 v) := k6.cell 0
  have l1 := k1.lt
  have l2 := k3.lt
  have l3 := k4.lt
  have l4 := k5.lt
  have l5 := k6.lt
  have HKV := Lib.hid k2
  have HP := Lib.hid hp
  have HH := Lib.hid hh
  have HB := Lib.hid hb
  have N0 := Lib.hid hn0
  have N1 := Lib.hid hn1
  clear hp hh hb k1 k2 k3 k4 k5 k6 hn0 hn1
  go_enter Try.func95, Try.ntmps95
  go_wp2_with (go_at_call 83; (with_reducible refine (keep_any (HP.out.alloc _) (HKV.out.alloc _)).mono ?_); rintro e w1 ⟨rfl, nx', hr, ha, hP⟩; have HR := Lib.hid hr; have HA := Lib.hid ha; have HQ := Lib.hid hP; clear hr ha hP)
  go_end0
  exact ⟨rfl, nx', HR.out, ⟨b0, b1, b2, HA.out, (HB.out.alloc _).off (HP.out.alloc _) HQ.out⟩, ((Part.refl [bp] w).alloc _).then_ HQ.out⟩
theorem keep_over_greatest (hp : Row w bp 85 (pendH bh nx s)) (hh : Row w bh 82 [.int .i64 l, .int .i64 h, .int .i64 d, .int .i64 nb, .pointer (some ⟨bk, 0, none⟩)]) (hk : KeepB w bp 85 (.func (.func 61) #[] #[.pointer (some ⟨b0, 0, none⟩), .pointer (some ⟨b2, 0, none⟩)]) (nb + 2) (IntKind.u64.wrap (v + 1)) bb bt bq bc bx) (hb : RecB w bp v n b0 b1 b2) (hn0 : 0 ≤ nb) (hn1 : nb ≤ 65532) (ht : decide (saw < IntKind.u64.wrap (v + 1)) = false) :
    Calls Try.prog 94 #[.int .u64 saw, .pointer (some ⟨bb, 0, none⟩), .pointer (some ⟨bt, 0, none⟩), .pointer (some ⟨bq, 0, none⟩), .pointer (some ⟨bc, 0, none⟩), .pointer (some ⟨bx, 0, none⟩)] w fun e w' => e = .returned (.tuple #[]) ∧ ∃ nx', Row w' bp 85 (pendH bh nx' s) ∧ R4H w' bp nx' nb n ∧ Part [bp] w w' := by
  obtain ⟨bv, k1, k2, k3, k4, k5, k6⟩ := hk
  have c1 : w.cell? ⟨bb, 0, none⟩ = some (fnB 85 bv) := k1.cell 0
  have c2 : w.cell? ⟨bt, 0, none⟩ = some (.func (.func 61) #[] #[.pointer (some ⟨b0, 0, none⟩), .pointer (some ⟨b2, 0, none⟩)]) := k3.cell 0
  have c3 : w.cell? ⟨bq, 0, none⟩ = some (.pointer (some ⟨bp, 0, none⟩)) := k4.cell 0
  have c4 : w.cell? ⟨bc, 0, none⟩ = some (.int .i64 (nb + 2)) := k5.cell 0
  have c5 : w.cell? ⟨bx, 0, none⟩ = some (.int .u64 (IntKind.u64.wrap (v + 1))) := k6.cell 0
  have l1 := k1.lt
  have l2 := k3.lt
  have l3 := k4.lt
  have l4 := k5.lt
  have l5 := k6.lt
  have HKV := Lib.hid k2
  have HP := Lib.hid hp
  have HH := Lib.hid hh
  have HB := Lib.hid hb
  have N0 := Lib.hid hn0
  have N1 := Lib.hid hn1
  have HT := Lib.hid ht
  clear hp hh hb k1 k2 k3 k4 k5 k6 hn0 hn1
  clear ht
  go_enter Try.func94, Try.ntmps94
  go_wp2_with (first
    | (go_at_call 85; (with_reducible refine (keepGreatest1_any HKV.out).mono ?_); rw [HT.out]; rintro e wx ⟨rfl, rfl⟩)
    | (go_at_call 61; (with_reducible refine (record4_any HP.out HH.out HB.out N0.out N1.out).mono ?_); rintro e w1 ⟨rfl, nx', hr, ha, hP⟩; have HR := Lib.hid hr; have HA := Lib.hid ha; have HQ := Lib.hid hP; clear hr ha hP))
  exact bodyPost_ret (v := .tuple #[]) (by simp [results, Try.results94, go_sem]) rfl ⟨rfl, nx', HR.out, HA.out, HQ.out⟩
theorem keep_more_greatest (hp : Row w bp 85 (pendH bh nx s)) (hh : Row w bh 82 [.int .i64 l, .int .i64 h, .int .i64 d, .int .i64 nb, .pointer (some ⟨bk, 0, none⟩)]) (hk : KeepB w bp 85 (.func (.func 61) #[] #[.pointer (some ⟨b0, 0, none⟩), .pointer (some ⟨b2, 0, none⟩)]) (nb + 2) (IntKind.u64.wrap (v + 1)) bb bt bq bc bx) (hb : RecB w bp v n b0 b1 b2) (hn0 : 0 ≤ nb) (hn1 : nb ≤ 65532) (ht : decide (saw < IntKind.u64.wrap (v + 1)) = true) :
    Calls Try.prog 94 #[.int .u64 saw, .pointer (some ⟨bb, 0, none⟩), .pointer (some ⟨bt, 0, none⟩), .pointer (some ⟨bq, 0, none⟩), .pointer (some ⟨bc, 0, none⟩), .pointer (some ⟨bx, 0, none⟩)] w fun e w' => e = .returned (.tuple #[]) ∧ ∃ nx', Row w' bp 85 (pendH bh nx' s) ∧ C3H w' bp nx' nb v n saw ∧ Part [bp] w w' := by
  obtain ⟨bv, k1, k2, k3, k4, k5, k6⟩ := hk
  have c1 : w.cell? ⟨bb, 0, none⟩ = some (fnB 85 bv) := k1.cell 0
  have c2 : w.cell? ⟨bt, 0, none⟩ = some (.func (.func 61) #[] #[.pointer (some ⟨b0, 0, none⟩), .pointer (some ⟨b2, 0, none⟩)]) := k3.cell 0
  have c3 : w.cell? ⟨bq, 0, none⟩ = some (.pointer (some ⟨bp, 0, none⟩)) := k4.cell 0
  have c4 : w.cell? ⟨bc, 0, none⟩ = some (.int .i64 (nb + 2)) := k5.cell 0
  have c5 : w.cell? ⟨bx, 0, none⟩ = some (.int .u64 (IntKind.u64.wrap (v + 1))) := k6.cell 0
  have l1 := k1.lt
  have l2 := k3.lt
  have l3 := k4.lt
  have l4 := k5.lt
  have l5 := k6.lt
  have HKV := Lib.hid k2
  have HP := Lib.hid hp
  have HH := Lib.hid hh
  have HB := Lib.hid hb
  have N0 := Lib.hid hn0
  have N1 := Lib.hid hn1
  have H1 := Lib.hid k1
  have H3 := Lib.hid k3
  have H4 := Lib.hid k4
  have H5 := Lib.hid k5
  have H6 := Lib.hid k6
  have M1 := Lib.hid (k1.ne hp (by decide))
  have M2 := Lib.hid (k2.ne hp (by decide))
  have M3 := Lib.hid (k3.ne hp (by decide))
  have M4 := Lib.hid (k4.ne hp (by decide))
  have M5 := Lib.hid (k5.ne hp (by decide))
  have M6 := Lib.hid (k6.ne hp (by decide))
  have HT := Lib.hid ht
  clear hp hh hb k1 k2 k3 k4 k5 k6 hn0 hn1
  clear ht
  go_enter Try.func94, Try.ntmps94
  go_wp2_with (first
    | (go_at_call 85; (with_reducible refine (keepGreatest1_any HKV.out).mono ?_); rw [HT.out]; rintro e wx ⟨rfl, rfl⟩)
    | (go_at_call 81; (with_reducible refine (act_any HP.out).mono ?_); rintro e w1 ⟨rfl, nx', hr, ha, hP⟩; have HR := Lib.hid hr; have HA := Lib.hid ha; have HQ := Lib.hid hP; clear hr ha hP))
  go_end0
  have hoff : ∀ {b : Nat}, b ≠ bp → b ∉ [bp] := fun h => by simpa using h
  exact ⟨rfl, nx', HR.out, ⟨b0, b1, b2, ⟨bb, bt, bq, bc, bx, HA.out, bv, H1.out.part HQ.out (hoff M1.out), HKV.out.part HQ.out (hoff M2.out), H3.out.part HQ.out (hoff M3.out), H4.out.part HQ.out (hoff M4.out), H5.out.part HQ.out (hoff M5.out), H6.out.part HQ.out (hoff M6.out)⟩, HB.out.off HP.out HQ.out⟩, HQ.out⟩
theorem keep1_ok_greatest (hp : Row w bp 85 (pendH bh nx s)) (hh : Row w bh 82 [.int .i64 l, .int .i64 h, .int .i64 d, .int .i64 nb, .pointer (some ⟨bk, 0, none⟩)]) (hk : KeepB w bp 85 (.func (.func 61) #[] #[.pointer (some ⟨b0, 0, none⟩), .pointer (some ⟨b2, 0, none⟩)]) (nb + 2) (IntKind.u64.wrap (v + 1)) bb bt bq bc bx) (hb : RecB w bp v n b0 b1 b2) (hn0 : 0 ≤ nb) (hn1 : nb ≤ 65532) :
    Calls Try.prog 95 #[.agg #[.int .u8 k, .int .i64 c, .int .u64 saw, .int .u64 put, .bool true], .pointer (some ⟨bt, 0, none⟩), .pointer (some ⟨bq, 0, none⟩), .pointer (some ⟨bc, 0, none⟩), .pointer (some ⟨bx, 0, none⟩), .pointer (some ⟨bb, 0, none⟩)] w fun e w' => e = .returned (.tuple #[]) ∧ ∃ nx', Row w' bp 85 (pendH bh nx' s) ∧ R4H w' bp nx' nb n ∧ Part [bp] w w' := by
  obtain ⟨bv, k1, k2, k3, k4, k5, k6⟩ := hk
  have c1 : w.cell? ⟨bb, 0, none⟩ = some (fnB 85 bv) := k1.cell 0
  have c2 : w.cell? ⟨bt, 0, none⟩ = some (.func (.func 61) #[] #[.pointer (some ⟨b0, 0, none⟩), .pointer (some ⟨b2, 0, none⟩)]) := k3.cell 0
  have c3 : w.cell? ⟨bq, 0, none⟩ = some (.pointer (some ⟨bp, 0, none⟩)) := k4.cell 0
  have c4 : w.cell? ⟨bc, 0, none⟩ = some (.int .i64 (nb + 2)) := k5.cell 0
  have c5 : w.cell? ⟨bx, 0, none⟩ = some (.int .u64 (IntKind.u64.wrap (v + 1))) := k6.cell 0
  have l1 := k1.lt
  have l2 := k3.lt
  have l3 := k4.lt
  have l4 := k5.lt
  have l5 := k6.lt
  have HKV := Lib.hid k2
  have HP := Lib.hid hp
  have HH := Lib.hid hh
  have HB := Lib.hid hb
  have N0 := Lib.hid hn0
  have N1 := Lib.hid hn1
  clear hp hh hb k1 k2 k3 k4 k5 k6 hn0 hn1
  go_enter Try.func95, Try.ntmps95
  go_wp2_with (go_at_call 61; (with_reducible refine (record4_any (HP.out.alloc _) (HH.out.alloc _) (HB.out.alloc _) N0.out N1.out).mono ?_); rintro e w1 ⟨rfl, nx', hr, ha, hP⟩; have HR := Lib.hid hr; have HA := Lib.hid ha; have HQ := Lib.hid hP; clear hr ha hP)
  go_end0
  exact ⟨rfl, nx', HR.out, HA.out, ((Part.refl [bp] w).alloc _).then_ HQ.out⟩
theorem keep1_no_greatest (hp : Row w bp 85 (pendH bh nx s)) (hh : Row w bh 82 [.int .i64 l, .int .i64 h, .int .i64 d, .int .i64 nb, .pointer (some ⟨bk, 0, none⟩)]) (hk : KeepB w bp 85 (.func (.func 61) #[] #[.pointer (some ⟨b0, 0, none⟩), .pointer (some ⟨b2, 0, none⟩)]) (nb + 2) (IntKind.u64.wrap (v + 1)) bb bt bq bc bx) (hb : RecB w bp v n b0 b1 b2) (hn0 : 0 ≤ nb) (hn1 : nb ≤ 65532) :
    Calls Try.prog 95 #[.agg #[.int .u8 k, .int .i64 c, .int .u64 saw, .int .u64 put, .bool false], .pointer (some ⟨bt, 0, none⟩), .pointer (some ⟨bq, 0, none⟩), .pointer (some ⟨bc, 0, none⟩), .pointer (some ⟨bx, 0, none⟩), .pointer (some ⟨bb, 0, none⟩)] w fun e w' => e = .returned (.tuple #[]) ∧ ∃ nx', Row w' bp 85 (pendH bh nx' s) ∧ R3H w' bp nx' nb v n ∧ Part [bp] w w' := by
  obtain ⟨bv, k1, k2, k3, k4, k5, k6⟩ := hk
  have c1 : w.cell? ⟨bb, 0, none⟩ = some (fnB 85 bv) := k1.cell 0
  have c2 : w.cell? ⟨bt, 0, none⟩ = some (.func (.func 61) #[] #[.pointer (some ⟨b0, 0, none⟩), .pointer (some ⟨b2, 0, none⟩)]) := k3.cell 0
  have c3 : w.cell? ⟨bq, 0, none⟩ = some (.pointer (some ⟨bp, 0, none⟩)) := k4.cell 0
  have c4 : w.cell? ⟨bc, 0, none⟩ = some (.int .i64 (nb + 2)) := k5.cell 0
  have c5 : w.cell? ⟨bx, 0, none⟩ = some (.int .u64 (IntKind.u64.wrap (v + 1))) := k6.cell 0
  have l1 := k1.lt
  have l2 := k3.lt
  have l3 := k4.lt
  have l4 := k5.lt
  have l5 := k6.lt
  have HKV := Lib.hid k2
  have HP := Lib.hid hp
  have HH := Lib.hid hh
  have HB := Lib.hid hb
  have N0 := Lib.hid hn0
  have N1 := Lib.hid hn1
  clear hp hh hb k1 k2 k3 k4 k5 k6 hn0 hn1
  go_enter Try.func95, Try.ntmps95
  go_wp2_with (go_at_call 83; (with_reducible refine (keep_any (HP.out.alloc _) (HKV.out.alloc _)).mono ?_); rintro e w1 ⟨rfl, nx', hr, ha, hP⟩; have HR := Lib.hid hr; have HA := Lib.hid ha; have HQ := Lib.hid hP; clear hr ha hP)
  go_end0
  exact ⟨rfl, nx', HR.out, ⟨b0, b1, b2, HA.out, (HB.out.alloc _).off (HP.out.alloc _) HQ.out⟩, ((Part.refl [bp] w).alloc _).then_ HQ.out⟩
end
theorem load1_keep {w : World} {b bp bh bb bt bq bc bx : Nat} {T : List Nat} {k c saw put : Int} {ok : Bool} {G : World → Value → ShM → Prop} (hb : Row w b 108 [(.func (.func 94) #[] #[.pointer (some ⟨bb, 0, none⟩), .pointer (some ⟨bt, 0, none⟩), .pointer (some ⟨bq, 0, none⟩), .pointer (some ⟨bc, 0, none⟩), .pointer (some ⟨bx, 0, none⟩)])])
    (hT : Calls Try.prog 94 #[.int .u64 saw, .pointer (some ⟨bb, 0, none⟩), .pointer (some ⟨bt, 0, none⟩), .pointer (some ⟨bq, 0, none⟩), .pointer (some ⟨bc, 0, none⟩), .pointer (some ⟨bx, 0, none⟩)] (w.alloc (.cells #[.int .u8 k, .int .i64 c, .int .u64 saw, .int .u64 put, .bool ok] 50)) (TellH (w.alloc (.cells #[.int .u8 k, .int .i64 c, .int .u64 saw, .int .u64 put, .bool ok] 50)) bp bh T G)) :
    Calls Try.prog 86 #[.agg #[.int .u8 k, .int .i64 c, .int .u64 saw, .int .u64 put, .bool ok], .pointer (some ⟨b, 0, none⟩)] w (TellH w bp bh T G) := by
  have c1 : w.cell? ⟨b, 0, none⟩ = some (.func (.func 94) #[] #[.pointer (some ⟨bb, 0, none⟩), .pointer (some ⟨bt, 0, none⟩), .pointer (some ⟨bq, 0, none⟩), .pointer (some ⟨bc, 0, none⟩), .pointer (some ⟨bx, 0, none⟩)]) := hb.cell 0
  have bl := hb.lt
  have HT := Lib.hid hT
  clear hb hT
  go_enter Try.func86, Try.ntmps86
  go_wp2_with (go_at_call 94; (with_reducible refine HT.out.mono ?_); rintro e w1 ⟨rfl, nx', s', hr, ha, hP⟩; have HR := Lib.hid hr; have HA := Lib.hid ha; have HQ := Lib.hid hP; clear hr ha hP)
  go_end0
  exact ⟨rfl, nx', s', HR.out, HA.out, ((Part.refl (bp :: T) w).alloc _).then_ HQ.out⟩
theorem load1_show1 {w : World} {b bp bh b0 : Nat} {T : List Nat} {k c saw put : Int} {ok : Bool} {G : World → Value → ShM → Prop} (hb : Row w b 108 [(.func (.func 64) #[] #[.pointer (some ⟨b0, 0, none⟩)])])
    (hT : Calls Try.prog 64 #[.int .u64 saw, .pointer (some ⟨b0, 0, none⟩)] (w.alloc (.cells #[.int .u8 k, .int .i64 c, .int .u64 saw, .int .u64 put, .bool ok] 50)) (TellH (w.alloc (.cells #[.int .u8 k, .int .i64 c, .int .u64 saw, .int .u64 put, .bool ok] 50)) bp bh T G)) :
    Calls Try.prog 86 #[.agg #[.int .u8 k, .int .i64 c, .int .u64 saw, .int .u64 put, .bool ok], .pointer (some ⟨b, 0, none⟩)] w (TellH w bp bh T G) := by
  have c1 : w.cell? ⟨b, 0, none⟩ = some (.func (.func 64) #[] #[.pointer (some ⟨b0, 0, none⟩)]) := hb.cell 0
  have bl := hb.lt
  have HT := Lib.hid hT
  clear hb hT
  go_enter Try.func86, Try.ntmps86
  go_wp2_with (go_at_call 64; (with_reducible refine HT.out.mono ?_); rintro e w1 ⟨rfl, nx', s', hr, ha, hP⟩; have HR := Lib.hid hr; have HA := Lib.hid ha; have HQ := Lib.hid hP; clear hr ha hP)
  go_end0
  exact ⟨rfl, nx', s', HR.out, HA.out, ((Part.refl (bp :: T) w).alloc _).then_ HQ.out⟩
theorem load1_show2 {w : World} {b bp bh b0 : Nat} {T : List Nat} {k c saw put : Int} {ok : Bool} {G : World → Value → ShM → Prop} (hb : Row w b 108 [(.func (.func 65) #[] #[.pointer (some ⟨b0, 0, none⟩)])])
    (hT : Calls Try.prog 65 #[.int .u64 saw, .pointer (some ⟨b0, 0, none⟩)] (w.alloc (.cells #[.int .u8 k, .int .i64 c, .int .u64 saw, .int .u64 put, .bool ok] 50)) (TellH (w.alloc (.cells #[.int .u8 k, .int .i64 c, .int .u64 saw, .int .u64 put, .bool ok] 50)) bp bh T G)) :
    Calls Try.prog 86 #[.agg #[.int .u8 k, .int .i64 c, .int .u64 saw, .int .u64 put, .bool ok], .pointer (some ⟨b, 0, none⟩)] w (TellH w bp bh T G) := by
  have c1 : w.cell? ⟨b, 0, none⟩ = some (.func (.func 65) #[] #[.pointer (some ⟨b0, 0, none⟩)]) := hb.cell 0
  have bl := hb.lt
  have HT := Lib.hid hT
  clear hb hT
  go_enter Try.func86, Try.ntmps86
  go_wp2_with (go_at_call 65; (with_reducible refine HT.out.mono ?_); rintro e w1 ⟨rfl, nx', s', hr, ha, hP⟩; have HR := Lib.hid hr; have HA := Lib.hid ha; have HQ := Lib.hid hP; clear hr ha hP)
  go_end0
  exact ⟨rfl, nx', s', HR.out, HA.out, ((Part.refl (bp :: T) w).alloc _).then_ HQ.out⟩
theorem load1_show3 {w : World} {b bp bh b0 : Nat} {T : List Nat} {k c saw put : Int} {ok : Bool} {G : World → Value → ShM → Prop} (hb : Row w b 108 [(.func (.func 66) #[] #[.pointer (some ⟨b0, 0, none⟩)])])
    (hT : Calls Try.prog 66 #[.int .u64 saw, .pointer (some ⟨b0, 0, none⟩)] (w.alloc (.cells #[.int .u8 k, .int .i64 c, .int .u64 saw, .int .u64 put, .bool ok] 50)) (TellH (w.alloc (.cells #[.int .u8 k, .int .i64 c, .int .u64 saw, .int .u64 put, .bool ok] 50)) bp bh T G)) :
    Calls Try.prog 86 #[.agg #[.int .u8 k, .int .i64 c, .int .u64 saw, .int .u64 put, .bool ok], .pointer (some ⟨b, 0, none⟩)] w (TellH w bp bh T G) := by
  have c1 : w.cell? ⟨b, 0, none⟩ = some (.func (.func 66) #[] #[.pointer (some ⟨b0, 0, none⟩)]) := hb.cell 0
  have bl := hb.lt
  have HT := Lib.hid hT
  clear hb hT
  go_enter Try.func86, Try.ntmps86
  go_wp2_with (go_at_call 66; (with_reducible refine HT.out.mono ?_); rintro e w1 ⟨rfl, nx', s', hr, ha, hP⟩; have HR := Lib.hid hr; have HA := Lib.hid ha; have HQ := Lib.hid hP; clear hr ha hP)
  go_end0
  exact ⟨rfl, nx', s', HR.out, HA.out, ((Part.refl (bp :: T) w).alloc _).then_ HQ.out⟩
theorem load1_show4 {w : World} {b bp bh b0 : Nat} {T : List Nat} {k c saw put : Int} {ok : Bool} {G : World → Value → ShM → Prop} (hb : Row w b 108 [(.func (.func 67) #[] #[.pointer (some ⟨b0, 0, none⟩)])])
    (hT : Calls Try.prog 67 #[.int .u64 saw, .pointer (some ⟨b0, 0, none⟩)] (w.alloc (.cells #[.int .u8 k, .int .i64 c, .int .u64 saw, .int .u64 put, .bool ok] 50)) (TellH (w.alloc (.cells #[.int .u8 k, .int .i64 c, .int .u64 saw, .int .u64 put, .bool ok] 50)) bp bh T G)) :
    Calls Try.prog 86 #[.agg #[.int .u8 k, .int .i64 c, .int .u64 saw, .int .u64 put, .bool ok], .pointer (some ⟨b, 0, none⟩)] w (TellH w bp bh T G) := by
  have c1 : w.cell? ⟨b, 0, none⟩ = some (.func (.func 67) #[] #[.pointer (some ⟨b0, 0, none⟩)]) := hb.cell 0
  have bl := hb.lt
  have HT := Lib.hid hT
  clear hb hT
  go_enter Try.func86, Try.ntmps86
  go_wp2_with (go_at_call 67; (with_reducible refine HT.out.mono ?_); rintro e w1 ⟨rfl, nx', s', hr, ha, hP⟩; have HR := Lib.hid hr; have HA := Lib.hid ha; have HQ := Lib.hid hP; clear hr ha hP)
  go_end0
  exact ⟨rfl, nx', s', HR.out, HA.out, ((Part.refl (bp :: T) w).alloc _).then_ HQ.out⟩
theorem load1_gather {w : World} {b bp bh b0 : Nat} {T : List Nat} {k c saw put : Int} {ok : Bool} {G : World → Value → ShM → Prop} (hb : Row w b 108 [(.func (.func 87) #[] #[.pointer (some ⟨b0, 0, none⟩)])])
    (hT : Calls Try.prog 87 #[.int .u64 saw, .pointer (some ⟨b0, 0, none⟩)] (w.alloc (.cells #[.int .u8 k, .int .i64 c, .int .u64 saw, .int .u64 put, .bool ok] 50)) (TellH (w.alloc (.cells #[.int .u8 k, .int .i64 c, .int .u64 saw, .int .u64 put, .bool ok] 50)) bp bh T G)) :
    Calls Try.prog 86 #[.agg #[.int .u8 k, .int .i64 c, .int .u64 saw, .int .u64 put, .bool ok], .pointer (some ⟨b, 0, none⟩)] w (TellH w bp bh T G) := by
  have c1 : w.cell? ⟨b, 0, none⟩ = some (.func (.func 87) #[] #[.pointer (some ⟨b0, 0, none⟩)]) := hb.cell 0
  have bl := hb.lt
  have HT := Lib.hid hT
  clear hb hT
  go_enter Try.func86, Try.ntmps86
  go_wp2_with (go_at_call 87; (with_reducible refine HT.out.mono ?_); rintro e w1 ⟨rfl, nx', s', hr, ha, hP⟩; have HR := Lib.hid hr; have HA := Lib.hid ha; have HQ := Lib.hid hP; clear hr ha hP)
  go_end0
  exact ⟨rfl, nx', s', HR.out, HA.out, ((Part.refl (bp :: T) w).alloc _).then_ HQ.out⟩
theorem add1_1 {w : World} {b bp bh b0 b1 b2 : Nat} {T : List Nat} {k c saw put : Int} {ok : Bool} {G : World → Value → ShM → Prop} (hb : Row w b 1 [(.func (.func 56) #[] #[.pointer (some ⟨b0, 0, none⟩), .pointer (some ⟨b1, 0, none⟩), .pointer (some ⟨b2, 0, none⟩)])])
    (hT : Calls Try.prog 56 #[.pointer (some ⟨b0, 0, none⟩), .pointer (some ⟨b1, 0, none⟩), .pointer (some ⟨b2, 0, none⟩)] (w.alloc (.cells #[.int .u8 k, .int .i64 c, .int .u64 saw, .int .u64 put, .bool ok] 50)) (TellH (w.alloc (.cells #[.int .u8 k, .int .i64 c, .int .u64 saw, .int .u64 put, .bool ok] 50)) bp bh T G)) :
    Calls Try.prog 82 #[.agg #[.int .u8 k, .int .i64 c, .int .u64 saw, .int .u64 put, .bool ok], .pointer (some ⟨b, 0, none⟩)] w (TellH w bp bh T G) := by
  have c1 : w.cell? ⟨b, 0, none⟩ = some (.func (.func 56) #[] #[.pointer (some ⟨b0, 0, none⟩), .pointer (some ⟨b1, 0, none⟩), .pointer (some ⟨b2, 0, none⟩)]) := hb.cell 0
  have bl := hb.lt
  have HT := Lib.hid hT
  clear hb hT
  go_enter Try.func82, Try.ntmps82
  go_wp2_with (go_at_call 56; (with_reducible refine HT.out.mono ?_); rintro e w1 ⟨rfl, nx', s', hr, ha, hP⟩; have HR := Lib.hid hr; have HA := Lib.hid ha; have HQ := Lib.hid hP; clear hr ha hP)
  go_end0
  exact ⟨rfl, nx', s', HR.out, HA.out, ((Part.refl (bp :: T) w).alloc _).then_ HQ.out⟩
theorem add1_2 {w : World} {b bp bh b0 b1 b2 : Nat} {T : List Nat} {k c saw put : Int} {ok : Bool} {G : World → Value → ShM → Prop} (hb : Row w b 1 [(.func (.func 57) #[] #[.pointer (some ⟨b0, 0, none⟩), .pointer (some ⟨b1, 0, none⟩), .pointer (some ⟨b2, 0, none⟩)])])
    (hT : Calls Try.prog 57 #[.pointer (some ⟨b0, 0, none⟩), .pointer (some ⟨b1, 0, none⟩), .pointer (some ⟨b2, 0, none⟩)] (w.alloc (.cells #[.int .u8 k, .int .i64 c, .int .u64 saw, .int .u64 put, .bool ok] 50)) (TellH (w.alloc (.cells #[.int .u8 k, .int .i64 c, .int .u64 saw, .int .u64 put, .bool ok] 50)) bp bh T G)) :
    Calls Try.prog 82 #[.agg #[.int .u8 k, .int .i64 c, .int .u64 saw, .int .u64 put, .bool ok], .pointer (some ⟨b, 0, none⟩)] w (TellH w bp bh T G) := by
  have c1 : w.cell? ⟨b, 0, none⟩ = some (.func (.func 57) #[] #[.pointer (some ⟨b0, 0, none⟩), .pointer (some ⟨b1, 0, none⟩), .pointer (some ⟨b2, 0, none⟩)]) := hb.cell 0
  have bl := hb.lt
  have HT := Lib.hid hT
  clear hb hT
  go_enter Try.func82, Try.ntmps82
  go_wp2_with (go_at_call 57; (with_reducible refine HT.out.mono ?_); rintro e w1 ⟨rfl, nx', s', hr, ha, hP⟩; have HR := Lib.hid hr; have HA := Lib.hid ha; have HQ := Lib.hid hP; clear hr ha hP)
  go_end0
  exact ⟨rfl, nx', s', HR.out, HA.out, ((Part.refl (bp :: T) w).alloc _).then_ HQ.out⟩
theorem add1_end {w : World} {b bp bh : Nat} {nx : Value} {s : ShM} {k c saw put : Int} {ok : Bool} (hp : Row w bp 85 (pendH bh nx s)) (hb : Row w b 1 [(.func (.func 62) #[.pointer (some ⟨bp, 0, none⟩)] #[])]) :
    Calls Try.prog 82 #[.agg #[.int .u8 k, .int .i64 c, .int .u64 saw, .int .u64 put, .bool ok], .pointer (some ⟨b, 0, none⟩)] w (TellH w bp bh [] fun _ nx' s' => nx' = .nilFunc ∧ s' = s) := by
  have c1 : w.cell? ⟨b, 0, none⟩ = some (.func (.func 62) #[.pointer (some ⟨bp, 0, none⟩)] #[]) := hb.cell 0
  have bl := hb.lt
  have HP := Lib.hid hp
  clear hb hp
  go_enter Try.func82, Try.ntmps82
  go_wp2_with (go_at_call 62; (with_reducible refine (end_any (HP.out.alloc _)).mono ?_); rintro e w1 ⟨rfl, hr, hP⟩; have HR := Lib.hid hr; have HQ := Lib.hid hP; clear hr hP)
  go_end0
  exact ⟨rfl, .nilFunc, s, HR.out, ⟨rfl, rfl⟩, ((Part.refl [bp] w).alloc _).then_ HQ.out⟩
end Go.Proofs.Ytiifhkfkcljoiaa
