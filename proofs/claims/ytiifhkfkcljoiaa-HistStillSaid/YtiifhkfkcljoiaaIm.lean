/- THE WALKS of package hist: Start. -/
import Derived.Test.YtiifhkfkcljoiaaIl
import Derived.Deep.RegionLaw
import Derived.Deep.AppendLies
import Derived.Laws.MakeOwn
namespace Go.Proofs.Ytiifhkfkcljoiaa
open Go Go.RowKit
set_option maxRecDepth 100000
set_option maxHeartbeats 1600000
def zeroS : ShM := ⟨0, 0, 0, 0, nilU⟩
/-- the bucket of a number -/
def ixH (l d v : Int) : Nat := Sc.SC.idx (Sc.hOf d) (Sc.eOf l) v.toNat
/-- is an operation right? -/
def rightO (h k v n : Int) : Bool := (k == 1 && decide (0 ≤ v) && decide (v ≤ h) && n != 0) || (k == 2 && v == 0 && n == 0)
def opH (l d k v n : Int) : OpH := if k = 1 then newR v n (ixH l d v) else newS
/-- what a Start leaves -/
def BegunH (w : World) (bh m : Nat) (o : OpH) (e : Ending) (w' : World) : Prop := ∃ bp nx, e = .returned (.tuple #[.pointer (some ⟨bp, 0, none⟩), .int .i64 0]) ∧ w.heap.size ≤ bp ∧ Row w' bp 85 (pendH bh nx zeroS) ∧ NextH bp m o w' nx zeroS ∧ Below w.heap.size w w'
theorem part_new {w w' : World} {o o2 : Obj} (h : Part [w.heap.size + 1] ((w.alloc o).alloc o2) w') : Below w.heap.size w w' :=
  (((Below.refl w.heap.size w).alloc (Nat.le_refl _) o).alloc (by simp) o2).trans (h.below (by simp; omega) (by simp))
section
variable {w : World} {bh bk bw m : Nat} {l h d k v n : Int} {ws : List Int}
theorem hstart_nil (w : World) : Calls Try.prog 13 #[.pointer none, .agg #[.int .u8 k, .int .i64 v, .int .u64 n]] w fun e w' => e = .returned (.tuple #[.pointer none, .int .i64 1]) ∧ Below w.heap.size w w' := by
  go_enter Try.func13, Try.ntmps13
  go_wp2
  go_ret2
  exact ⟨rfl, (Below.refl _ _).alloc (Nat.le_refl _) _⟩
theorem hstart_rec (hs : HistM w bh bk bw l h d m ws) (r : Sc.rightB l h d = true) (h0 : 0 ≤ v) (h1 : v ≤ h) (hn : n ≠ 0) : Calls Try.prog 13 #[.pointer (some ⟨bh, 0, none⟩), .agg #[.int .u8 1, .int .i64 v, .int .u64 n]] w (BegunH w bh m (newR v n (ixH l d v))) := by
  have hv2 : v ≤ 2305843009213693952 := by have := (Sc.right_of r).2.2.2.1; omega
  have wv : IntKind.u64.wrap v = v := by rw [IntKind.wrap_u64]; omega
  have nb : (n == 0) = false := by simpa using hn
  have R := Lib.hid r
  have hhl := hs.head.lt
  have hh2 := (hs.head.alloc (.cells #[.int .u8 1, .int .i64 v, .int .u64 n] 40)).alloc (.cells #[.pointer (some ⟨bh, 0, none⟩), .nilFunc, .int .u64 0, .int .u64 0, .int .i64 0, .int .i64 0, .slice none 0 0] 85)
  have ho2 := (Row.new w 40 [.int .u8 1, .int .i64 v, .int .u64 n]).alloc (.cells #[.pointer (some ⟨bh, 0, none⟩), .nilFunc, .int .u64 0, .int .u64 0, .int .i64 0, .int .i64 0, .slice none 0 0] 85)
  have hp2 : Row ((w.alloc (.cells #[.int .u8 1, .int .i64 v, .int .u64 n] 40)).alloc (.cells #[.pointer (some ⟨bh, 0, none⟩), .nilFunc, .int .u64 0, .int .u64 0, .int .i64 0, .int .i64 0, .slice none 0 0] 85)) (w.heap.size + 1) 85 (pendH bh .nilFunc zeroS) := Row.of_eq (Row.at_ (w := (w.alloc (.cells #[.int .u8 1, .int .i64 v, .int .u64 n] 40))) (by simp)) (show ([.pointer (some ⟨bh, 0, none⟩), .nilFunc, .int .u64 0, .int .u64 0, .int .i64 0, .int .i64 0, .slice none 0 0] : List Value) = _ from rfl)
  have c0 := hh2.cell 0
  have c1 := hh2.cell 1
  have c2 := hh2.cell 2
  have c3 := ho2.cell 1
  have c4 := ho2.cell 2
  have HH := Lib.hid hh2
  have HO := Lib.hid ho2
  have HP := Lib.hid hp2
  have hb0 : Below w.heap.size w ((w.alloc (.cells #[.int .u8 1, .int .i64 v, .int .u64 n] 40)).alloc (.cells #[.pointer (some ⟨bh, 0, none⟩), .nilFunc, .int .u64 0, .int .u64 0, .int .i64 0, .int .i64 0, .slice none 0 0] 85)).drew := (((Below.refl w.heap.size w).alloc (Nat.le_refl _) _).alloc (by simp) _).drew
  have HB0 := Lib.hid hb0
  clear hs hh2 ho2 hp2 hb0
  clear r hn
  go_enter Try.func13, Try.ntmps13
  go_upto_region 7 with fail
  go_region_held3 (fun w' => w'.cell? ⟨bh, 0, none⟩ = some (.int .i64 l) ∧ w'.cell? ⟨bh, 1, none⟩ = some (.int .i64 h) ∧ w'.cell? ⟨bh, 2, none⟩ = some (.int .i64 d) ∧ w'.cell? ⟨w.heap.size, 1, none⟩ = some (.int .i64 v))
    (first | (with_reducible exact ⟨c0, c1, c2, c3⟩) | (exact ⟨d0, d1, d2, d3⟩) | go_keep)
    (first | (go_at_call 32; (with_reducible refine (Sc.sindex_yes R.out _ h0 h1).mono ?_); rintro e w2 ⟨rfl, hb⟩; have hh3 := HH.out.drew.below hb HH.out.drew.lt; have ho3 := HO.out.drew.below hb HO.out.drew.lt; have hp3 := HP.out.drew.below hb HP.out.drew.lt; have d0 := hh3.cell 0; have d1 := hh3.cell 1; have d2 := hh3.cell 2; have d3 := ho3.cell 1; have d4 := ho3.cell 2; have ol := ho3.lt; have HP3 := Lib.hid hp3; have HB3 := Lib.hid (HB0.out.trans (hb.mono HB0.out.size)); clear hh3 ho3 hp3 hb))
  all_goals
    go_wp2_with (go_at_call 38; (with_reducible refine (record_any HP3.out).mono ?_); rintro e w1 ⟨rfl, nx', hr, ha, hP⟩; have HR := Lib.hid hr; have HA := Lib.hid ha; have HQ := Lib.hid hP; clear hr ha hP)
    go_ret2
    have hR := HR.out.lt
    exact ⟨_, nx', rfl, by omega, HR.out, ⟨⟨rfl, rfl, rfl, rfl⟩, .inl ⟨rfl, rfl, rfl, .inr (.inl ⟨rfl, rfl, rfl, HA.out⟩)⟩⟩, HB3.out.trans (HQ.out.below HB3.out.size (by simp))⟩
theorem hstart_rec_out (hs : HistM w bh bk bw l h d m ws) (r : Sc.rightB l h d = true) (hv : v < 0 ∨ h < v) : Calls Try.prog 13 #[.pointer (some ⟨bh, 0, none⟩), .agg #[.int .u8 1, .int .i64 v, .int .u64 n]] w fun e w' => e = .returned (.tuple #[.pointer none, .int .i64 2]) ∧ Below w.heap.size w w' := by
  have R := Lib.hid r
  have V := Lib.hid hv
  have hhl := hs.head.lt
  have hh2 := (hs.head.alloc (.cells #[.int .u8 1, .int .i64 v, .int .u64 n] 40)).alloc (.cells #[.pointer (some ⟨bh, 0, none⟩), .nilFunc, .int .u64 0, .int .u64 0, .int .i64 0, .int .i64 0, .slice none 0 0] 85)
  have ho2 := (Row.new w 40 [.int .u8 1, .int .i64 v, .int .u64 n]).alloc (.cells #[.pointer (some ⟨bh, 0, none⟩), .nilFunc, .int .u64 0, .int .u64 0, .int .i64 0, .int .i64 0, .slice none 0 0] 85)
  have hp2 : Row ((w.alloc (.cells #[.int .u8 1, .int .i64 v, .int .u64 n] 40)).alloc (.cells #[.pointer (some ⟨bh, 0, none⟩), .nilFunc, .int .u64 0, .int .u64 0, .int .i64 0, .int .i64 0, .slice none 0 0] 85)) (w.heap.size + 1) 85 (pendH bh .nilFunc zeroS) := Row.of_eq (Row.at_ (w := (w.alloc (.cells #[.int .u8 1, .int .i64 v, .int .u64 n] 40))) (by simp)) (show ([.pointer (some ⟨bh, 0, none⟩), .nilFunc, .int .u64 0, .int .u64 0, .int .i64 0, .int .i64 0, .slice none 0 0] : List Value) = _ from rfl)
  have c0 := hh2.cell 0
  have c1 := hh2.cell 1
  have c2 := hh2.cell 2
  have c3 := ho2.cell 1
  have c4 := ho2.cell 2
  have HH := Lib.hid hh2
  have HO := Lib.hid ho2
  have HP := Lib.hid hp2
  have hb0 : Below w.heap.size w ((w.alloc (.cells #[.int .u8 1, .int .i64 v, .int .u64 n] 40)).alloc (.cells #[.pointer (some ⟨bh, 0, none⟩), .nilFunc, .int .u64 0, .int .u64 0, .int .i64 0, .int .i64 0, .slice none 0 0] 85)).drew := (((Below.refl w.heap.size w).alloc (Nat.le_refl _) _).alloc (by simp) _).drew
  have HB0 := Lib.hid hb0
  clear hs hh2 ho2 hp2 hb0
  clear r hv
  go_enter Try.func13, Try.ntmps13
  go_upto_region 7 with fail
  go_region_held3 (fun w' => w'.cell? ⟨bh, 0, none⟩ = some (.int .i64 l) ∧ w'.cell? ⟨bh, 1, none⟩ = some (.int .i64 h) ∧ w'.cell? ⟨bh, 2, none⟩ = some (.int .i64 d) ∧ w'.cell? ⟨w.heap.size, 1, none⟩ = some (.int .i64 v))
    (first | (with_reducible exact ⟨c0, c1, c2, c3⟩) | (exact ⟨d0, d1, d2, d3⟩) | go_keep)
    (first | (go_at_call 32; (with_reducible refine (Sc.sindex_out R.out V.out _).mono ?_); rintro e w2 ⟨rfl, hb⟩; have hh3 := HH.out.drew.below hb HH.out.drew.lt; have ho3 := HO.out.drew.below hb HO.out.drew.lt; have hp3 := HP.out.drew.below hb HP.out.drew.lt; have d0 := hh3.cell 0; have d1 := hh3.cell 1; have d2 := hh3.cell 2; have d3 := ho3.cell 1; have d4 := ho3.cell 2; have ol := ho3.lt; have HP3 := Lib.hid hp3; have HB3 := Lib.hid (HB0.out.trans (hb.mono HB0.out.size)); clear hh3 ho3 hp3 hb))
  all_goals
    go_wp2_with fail
    go_ret2
    exact ⟨rfl, HB3.out⟩
theorem hstart_rec_none (hs : HistM w bh bk bw l h d m ws) (r : Sc.rightB l h d = true) (h0 : 0 ≤ v) (h1 : v ≤ h) (hn : n = 0) : Calls Try.prog 13 #[.pointer (some ⟨bh, 0, none⟩), .agg #[.int .u8 1, .int .i64 v, .int .u64 n]] w fun e w' => e = .returned (.tuple #[.pointer none, .int .i64 2]) ∧ Below w.heap.size w w' := by
  subst hn
  have R := Lib.hid r
  have hhl := hs.head.lt
  have hh2 := (hs.head.alloc (.cells #[.int .u8 1, .int .i64 v, .int .u64 0] 40)).alloc (.cells #[.pointer (some ⟨bh, 0, none⟩), .nilFunc, .int .u64 0, .int .u64 0, .int .i64 0, .int .i64 0, .slice none 0 0] 85)
  have ho2 := (Row.new w 40 [.int .u8 1, .int .i64 v, .int .u64 0]).alloc (.cells #[.pointer (some ⟨bh, 0, none⟩), .nilFunc, .int .u64 0, .int .u64 0, .int .i64 0, .int .i64 0, .slice none 0 0] 85)
  have hp2 : Row ((w.alloc (.cells #[.int .u8 1, .int .i64 v, .int .u64 0] 40)).alloc (.cells #[.pointer (some ⟨bh, 0, none⟩), .nilFunc, .int .u64 0, .int .u64 0, .int .i64 0, .int .i64 0, .slice none 0 0] 85)) (w.heap.size + 1) 85 (pendH bh .nilFunc zeroS) := Row.of_eq (Row.at_ (w := (w.alloc (.cells #[.int .u8 1, .int .i64 v, .int .u64 0] 40))) (by simp)) (show ([.pointer (some ⟨bh, 0, none⟩), .nilFunc, .int .u64 0, .int .u64 0, .int .i64 0, .int .i64 0, .slice none 0 0] : List Value) = _ from rfl)
  have c0 := hh2.cell 0
  have c1 := hh2.cell 1
  have c2 := hh2.cell 2
  have c3 := ho2.cell 1
  have c4 := ho2.cell 2
  have HH := Lib.hid hh2
  have HO := Lib.hid ho2
  have HP := Lib.hid hp2
  have hb0 : Below w.heap.size w ((w.alloc (.cells #[.int .u8 1, .int .i64 v, .int .u64 0] 40)).alloc (.cells #[.pointer (some ⟨bh, 0, none⟩), .nilFunc, .int .u64 0, .int .u64 0, .int .i64 0, .int .i64 0, .slice none 0 0] 85)).drew := (((Below.refl w.heap.size w).alloc (Nat.le_refl _) _).alloc (by simp) _).drew
  have HB0 := Lib.hid hb0
  clear hs hh2 ho2 hp2 hb0
  clear r
  go_enter Try.func13, Try.ntmps13
  go_upto_region 7 with fail
  go_region_held3 (fun w' => w'.cell? ⟨bh, 0, none⟩ = some (.int .i64 l) ∧ w'.cell? ⟨bh, 1, none⟩ = some (.int .i64 h) ∧ w'.cell? ⟨bh, 2, none⟩ = some (.int .i64 d) ∧ w'.cell? ⟨w.heap.size, 1, none⟩ = some (.int .i64 v))
    (first | (with_reducible exact ⟨c0, c1, c2, c3⟩) | (exact ⟨d0, d1, d2, d3⟩) | go_keep)
    (first | (go_at_call 32; (with_reducible refine (Sc.sindex_yes R.out _ h0 h1).mono ?_); rintro e w2 ⟨rfl, hb⟩; have hh3 := HH.out.drew.below hb HH.out.drew.lt; have ho3 := HO.out.drew.below hb HO.out.drew.lt; have hp3 := HP.out.drew.below hb HP.out.drew.lt; have d0 := hh3.cell 0; have d1 := hh3.cell 1; have d2 := hh3.cell 2; have d3 := ho3.cell 1; have d4 := ho3.cell 2; have ol := ho3.lt; have HP3 := Lib.hid hp3; have HB3 := Lib.hid (HB0.out.trans (hb.mono HB0.out.size)); clear hh3 ho3 hp3 hb))
  all_goals
    go_wp2_with fail
    go_ret2
    exact ⟨rfl, HB3.out⟩
theorem hstart_show (hs : HistM w bh bk bw l h d m ws) : Calls Try.prog 13 #[.pointer (some ⟨bh, 0, none⟩), .agg #[.int .u8 2, .int .i64 0, .int .u64 0]] w (BegunH w bh m newS) := by
  have hfew := hs.few
  have hhl := hs.head.lt
  have hh2 := (hs.head.alloc (.cells #[.int .u8 2, .int .i64 0, .int .u64 0] 40)).alloc (.cells #[.pointer (some ⟨bh, 0, none⟩), .nilFunc, .int .u64 0, .int .u64 0, .int .i64 0, .int .i64 0, .slice none 0 0] 85)
  have ho2 := (Row.new w 40 [.int .u8 2, .int .i64 0, .int .u64 0]).alloc (.cells #[.pointer (some ⟨bh, 0, none⟩), .nilFunc, .int .u64 0, .int .u64 0, .int .i64 0, .int .i64 0, .slice none 0 0] 85)
  have hp2 : Row ((w.alloc (.cells #[.int .u8 2, .int .i64 0, .int .u64 0] 40)).alloc (.cells #[.pointer (some ⟨bh, 0, none⟩), .nilFunc, .int .u64 0, .int .u64 0, .int .i64 0, .int .i64 0, .slice none 0 0] 85)) (w.heap.size + 1) 85 (pendH bh .nilFunc zeroS) := Row.of_eq (Row.at_ (w := (w.alloc (.cells #[.int .u8 2, .int .i64 0, .int .u64 0] 40))) (by simp)) (show ([.pointer (some ⟨bh, 0, none⟩), .nilFunc, .int .u64 0, .int .u64 0, .int .i64 0, .int .i64 0, .slice none 0 0] : List Value) = _ from rfl)
  have c0 := hh2.cell 0
  have c1 := hh2.cell 1
  have c2 := hh2.cell 2
  have c3 := ho2.cell 1
  have c4 := ho2.cell 2
  have HH := Lib.hid hh2
  have HO := Lib.hid ho2
  have HP := Lib.hid hp2
  have hb0 : Below w.heap.size w ((w.alloc (.cells #[.int .u8 2, .int .i64 0, .int .u64 0] 40)).alloc (.cells #[.pointer (some ⟨bh, 0, none⟩), .nilFunc, .int .u64 0, .int .u64 0, .int .i64 0, .int .i64 0, .slice none 0 0] 85)).drew := (((Below.refl w.heap.size w).alloc (Nat.le_refl _) _).alloc (by simp) _).drew
  have HB0 := Lib.hid hb0
  clear hs hh2 ho2 hp2 hb0
  go_enter Try.func13, Try.ntmps13
  go_wp2_with (go_at_call 39; (with_reducible refine (show_any HP.out HH.out (by omega) (by omega)).mono ?_); rintro e w1 ⟨rfl, nx', hr, ha, hP⟩; have HR := Lib.hid hr; have HA := Lib.hid ha; have HQ := Lib.hid hP; clear hr ha hP)
  go_ret2
  have hb1 := HB0.out
  exact ⟨_, nx', rfl, by omega, HR.out, ⟨⟨rfl, rfl, rfl, rfl⟩, .inr ⟨rfl, rfl, .inl ⟨rfl, rfl, rfl, .inl ⟨rfl, HA.out⟩⟩⟩⟩, part_new HQ.out⟩
theorem hstart_show_no (hv : v ≠ 0 ∨ n ≠ 0) : Calls Try.prog 13 #[.pointer (some ⟨bh, 0, none⟩), .agg #[.int .u8 2, .int .i64 v, .int .u64 n]] w fun e w' => e = .returned (.tuple #[.pointer none, .int .i64 2]) ∧ Below w.heap.size w w' := by
  have hb0 : Below w.heap.size w ((w.alloc (.cells #[.int .u8 2, .int .i64 v, .int .u64 n] 40)).alloc (.cells #[.pointer (some ⟨bh, 0, none⟩), .nilFunc, .int .u64 0, .int .u64 0, .int .i64 0, .int .i64 0, .slice none 0 0] 85)) := (((Below.refl w.heap.size w).alloc (Nat.le_refl _) _).alloc (by simp) _)
  have HB0 := Lib.hid hb0
  by_cases hv0 : v = 0
  · subst hv0
    have hn : n ≠ 0 := by rcases hv with h | h; exact absurd rfl h; exact h
    have nb : (n != 0) = true := by simpa using hn
    clear hv hn hb0
    go_enter Try.func13, Try.ntmps13
    go_wp2
    go_ret2
    exact ⟨rfl, HB0.out⟩
  · have vb : (v != 0) = true := by simpa using hv0
    clear hv hv0 hb0
    go_enter Try.func13, Try.ntmps13
    go_wp2
    go_ret2
    exact ⟨rfl, HB0.out⟩
theorem hstart_kind (h1 : k ≠ 1) (h2 : k ≠ 2) : Calls Try.prog 13 #[.pointer (some ⟨bh, 0, none⟩), .agg #[.int .u8 k, .int .i64 v, .int .u64 n]] w fun e w' => e = .returned (.tuple #[.pointer none, .int .i64 2]) ∧ Below w.heap.size w w' := by
  have hb0 : Below w.heap.size w ((w.alloc (.cells #[.int .u8 k, .int .i64 v, .int .u64 n] 40)).alloc (.cells #[.pointer (some ⟨bh, 0, none⟩), .nilFunc, .int .u64 0, .int .u64 0, .int .i64 0, .int .i64 0, .slice none 0 0] 85)) := (((Below.refl w.heap.size w).alloc (Nat.le_refl _) _).alloc (by simp) _)
  have HB0 := Lib.hid hb0
  have n1 : (k == 1) = false := by simpa using h1
  have n2 : (k == 2) = false := by simpa using h2
  clear h1 h2 hb0
  go_enter Try.func13, Try.ntmps13
  go_wp2
  go_ret2
  exact ⟨rfl, HB0.out⟩
end
end Go.Proofs.Ytiifhkfkcljoiaa
