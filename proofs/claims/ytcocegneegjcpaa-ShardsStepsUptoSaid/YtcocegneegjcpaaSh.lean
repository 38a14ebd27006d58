/- THE WALKS of package shards: Start. -/
import Derived.Test.YtcocegneegjcpaaSg
namespace Go.Proofs.Ytcocegneegjcpaa
open Go Go.RowKit

theorem Shard.drewN {w : World} {bc bk bw : Nat} {ws : List Int} (h : Shard w bc bk bw ws) (n : Nat) : Shard (w.drewN n) bc bk bw ws := ⟨h.head, ⟨h.words.head, h.words.row, h.words.few, h.words.ok⟩, h.pos, h.top⟩
theorem Row.drewN {w : World} {b : Nat} {t : TypeId} {l : List Value} (h : Row w b t l) (n : Nat) : Row (w.drewN n) b t l := h
theorem Row.of_eq {w : World} {b : Nat} {t : TypeId} {l l' : List Value} (h : Row w b t l) (e : l = l') : Row w b t l' := e ▸ h
/-- what Start leaves, of an operation that is right: an operation of its own -/
def Begun (w : World) (l : List Value) (e : Ending) (w' : World) : Prop :=
  ∃ bp, e = .returned (.tuple #[.pointer (some ⟨bp, 0, none⟩), .int .i64 0]) ∧ w.heap.size ≤ bp ∧ Row w' bp 126 l ∧ Below w.heap.size w w'

set_option maxHeartbeats 1600000
set_option maxRecDepth 100000
theorem start_no {w : World} {a : Addr} {k i y : Int} (h : rightB k i y = false) :
    Calls Try.prog 24 #[.pointer (some a), .agg #[.int .u8 k, .int .i64 i, .int .u64 y]] w fun e w' => e = .returned (.tuple #[.pointer none, .int .i64 2]) ∧ Below w.heap.size w w' := by
  have H := Lib.hid h
  clear h
  go_enter Try.func24, Try.ntmps24
  go_wp2_with (go_at_call 61; refine (sright_any _ _ _ _).mono ?_; rw [H.out]; rintro e w1 ⟨rfl, hb⟩; have HB := Lib.hid hb; clear hb)
  go_ret2
  exact ⟨rfl, ((((Part.refl [] w).alloc _).on HB.out).end_)⟩
theorem start_add {w : World} {bc bk bw : Nat} {ws : List Int} (h : Shard w bc bk bw ws) {i : Nat} {y : Int} :
    Calls Try.prog 24 #[.pointer (some ⟨bc, 0, none⟩), .agg #[.int .u8 1, .int .i64 (i : Int), .int .u64 y]] w (Begun w (pendL bk 3 ((i % ws.length : Nat) : Int) y (fnV 62) 0)) := by
  have hr : rightB 1 (i : Int) y = true := by simp [rightB]
  have HR := Lib.hid hr
  have hc := h.hc
  have hp := h.pos
  have hn : ¬ ws = [] := by rintro rfl; simp at hp
  have hn' : ¬ (ws.length : Int) = 0 := by omega
  have hm := tmod_nat i ws.length
  have H := Lib.hid h
  clear h hr
  go_enter Try.func24, Try.ntmps24
  go_wp2_with (go_at_call 61; refine (sright_any _ _ _ _).mono ?_; rw [HR.out]; rintro e w1 ⟨rfl, hb⟩; have HB := Lib.hid hb; have H1 := Lib.hid ((H.out.alloc _).on hb); have hc1 := H1.out.hc; have hop : Row w1 w.heap.size 67 [.int .u8 1, .int .i64 (i : Int), .int .u64 y] := (Row.new w _ _).below hb (by simp); have o0 := hop.cell 0; have o1 := hop.cell 1; have o2 := hop.cell 2; have hw1 : w.heap.size < w1.heap.size := hop.lt; clear hop; clear hb)
  go_quiet ((go_at_call 23; exact Calls.quiet_of_same ((clen_any ((H1.out.alloc _).drewN _)).mono fun _ _ ⟨a, b⟩ => ⟨a, b.symm⟩)))
  go_wp2
  go_ret2
  refine ⟨w1.heap.size, rfl, by omega, Row.of_eq ((((((Row.drewN (Row.new w1 _ [_, _, _, _, _, _, _]) _).set 1 _).set 2 _).set 3 _).set 4 _).set 5 _) (by simp [pendL, fnV]), Part.end_ ?_⟩
  repeat (refine Part.set ?_ (by simp; omega) _)
  exact Part.drewN ((((Part.refl [] w).alloc _).on HB.out).alloc _) _
theorem start_read {w : World} {bc bk bw : Nat} {ws : List Int} (h : Shard w bc bk bw ws) {i : Nat} :
    Calls Try.prog 24 #[.pointer (some ⟨bc, 0, none⟩), .agg #[.int .u8 2, .int .i64 (i : Int), .int .u64 0]] w (Begun w (pendL bk 1 ((i % ws.length : Nat) : Int) 0 (fnV 63) 0)) := by
  have hr : rightB 2 (i : Int) 0 = true := by simp [rightB]
  have HR := Lib.hid hr
  have hc := h.hc
  have hp := h.pos
  have hn : ¬ ws = [] := by rintro rfl; simp at hp
  have hn' : ¬ (ws.length : Int) = 0 := by omega
  have hm := tmod_nat i ws.length
  have H := Lib.hid h
  clear h hr
  go_enter Try.func24, Try.ntmps24
  go_wp2_with (go_at_call 61; refine (sright_any _ _ _ _).mono ?_; rw [HR.out]; rintro e w1 ⟨rfl, hb⟩; have HB := Lib.hid hb; have H1 := Lib.hid ((H.out.alloc _).on hb); have hc1 := H1.out.hc; have hop : Row w1 w.heap.size 67 [.int .u8 2, .int .i64 (i : Int), .int .u64 0] := (Row.new w _ _).below hb (by simp); have o0 := hop.cell 0; have o1 := hop.cell 1; have o2 := hop.cell 2; have hw1 : w.heap.size < w1.heap.size := hop.lt; clear hop; clear hb)
  go_quiet ((go_at_call 23; exact Calls.quiet_of_same ((clen_any ((H1.out.alloc _).drewN _)).mono fun _ _ ⟨a, b⟩ => ⟨a, b.symm⟩)))
  go_wp2
  go_ret2
  refine ⟨w1.heap.size, rfl, by omega, Row.of_eq ((((((Row.drewN (Row.new w1 _ [_, _, _, _, _, _, _]) _).set 1 _).set 2 _).set 3 _).set 4 _).set 5 _) (by simp [pendL, fnV]), Part.end_ ?_⟩
  repeat (refine Part.set ?_ (by simp; omega) _)
  exact Part.drewN ((((Part.refl [] w).alloc _).on HB.out).alloc _) _
theorem start_sum {w : World} {bc bk bw : Nat} {ws : List Int} (h : Shard w bc bk bw ws) :
    Calls Try.prog 24 #[.pointer (some ⟨bc, 0, none⟩), .agg #[.int .u8 3, .int .i64 0, .int .u64 0]] w (Begun w (pendL bk 1 0 0 (fnV 64) 0)) := by
  have hr : rightB 3 0 0 = true := by simp [rightB]
  have HR := Lib.hid hr
  have hc := h.hc
  have hp := h.pos
  have hn : ¬ ws = [] := by rintro rfl; simp at hp
  have hn' : ¬ (ws.length : Int) = 0 := by omega
  have hm : (0 : Int).tmod (ws.length : Int) = 0 := by simp
  have H := Lib.hid h
  clear h hr
  go_enter Try.func24, Try.ntmps24
  go_wp2_with (go_at_call 61; refine (sright_any _ _ _ _).mono ?_; rw [HR.out]; rintro e w1 ⟨rfl, hb⟩; have HB := Lib.hid hb; have H1 := Lib.hid ((H.out.alloc _).on hb); have hc1 := H1.out.hc; have hop : Row w1 w.heap.size 67 [.int .u8 3, .int .i64 0, .int .u64 0] := (Row.new w _ _).below hb (by simp); have o0 := hop.cell 0; have o1 := hop.cell 1; have o2 := hop.cell 2; have hw1 : w.heap.size < w1.heap.size := hop.lt; clear hop; clear hb)
  go_quiet ((go_at_call 23; exact Calls.quiet_of_same ((clen_any ((H1.out.alloc _).drewN _)).mono fun _ _ ⟨a, b⟩ => ⟨a, b.symm⟩)))
  go_wp2
  go_ret2
  refine ⟨w1.heap.size, rfl, by omega, Row.of_eq ((((((Row.drewN (Row.new w1 _ [_, _, _, _, _, _, _]) _).set 1 _).set 2 _).set 3 _).set 4 _).set 5 _) (by simp [pendL, fnV]), Part.end_ ?_⟩
  repeat (refine Part.set ?_ (by simp; omega) _)
  exact Part.drewN ((((Part.refl [] w).alloc _).on HB.out).alloc _) _
theorem start_take {w : World} {bc bk bw : Nat} {ws : List Int} (h : Shard w bc bk bw ws) :
    Calls Try.prog 24 #[.pointer (some ⟨bc, 0, none⟩), .agg #[.int .u8 4, .int .i64 0, .int .u64 0]] w (Begun w (pendL bk 4 0 0 (fnV 64) 0)) := by
  have hr : rightB 4 0 0 = true := by simp [rightB]
  have HR := Lib.hid hr
  have hc := h.hc
  have hp := h.pos
  have hn : ¬ ws = [] := by rintro rfl; simp at hp
  have hn' : ¬ (ws.length : Int) = 0 := by omega
  have hm : (0 : Int).tmod (ws.length : Int) = 0 := by simp
  have H := Lib.hid h
  clear h hr
  go_enter Try.func24, Try.ntmps24
  go_wp2_with (go_at_call 61; refine (sright_any _ _ _ _).mono ?_; rw [HR.out]; rintro e w1 ⟨rfl, hb⟩; have HB := Lib.hid hb; have H1 := Lib.hid ((H.out.alloc _).on hb); have hc1 := H1.out.hc; have hop : Row w1 w.heap.size 67 [.int .u8 4, .int .i64 0, .int .u64 0] := (Row.new w _ _).below hb (by simp); have o0 := hop.cell 0; have o1 := hop.cell 1; have o2 := hop.cell 2; have hw1 : w.heap.size < w1.heap.size := hop.lt; clear hop; clear hb)
  go_quiet ((go_at_call 23; exact Calls.quiet_of_same ((clen_any ((H1.out.alloc _).drewN _)).mono fun _ _ ⟨a, b⟩ => ⟨a, b.symm⟩)))
  go_wp2
  go_ret2
  refine ⟨w1.heap.size, rfl, by omega, Row.of_eq ((((((Row.drewN (Row.new w1 _ [_, _, _, _, _, _, _]) _).set 1 _).set 2 _).set 3 _).set 4 _).set 5 _) (by simp [pendL, fnV]), Part.end_ ?_⟩
  repeat (refine Part.set ?_ (by simp; omega) _)
  exact Part.drewN ((((Part.refl [] w).alloc _).on HB.out).alloc _) _
end Go.Proofs.Ytcocegneegjcpaa
