/- THE WALKS of package hist: the document's Copy and CopyShot; Record, whatever comes. -/
import Derived.Test.YtiifhkfkcljoiaaIw
import Derived.Deep.RegionLaw
import Derived.Deep.AppendLies
import Derived.Laws.MakeOwn
namespace Go.Proofs.Ytiifhkfkcljoiaa
open Go Go.RowKit
set_option maxRecDepth 100000
set_option maxHeartbeats 1600000
theorem copy_any {w : World} {A : Option Addr} {c : Nat} {xs : List Int} (hA : Ext .u64 w A xs) (hl : xs.length ≤ 17592186044416) :
    Calls Try.prog 45 #[.slice A xs.length c] w fun e w' => ∃ A' c', e = .returned (.slice A' xs.length c') ∧ w'.ownsRow w.heap.size 38 1 (.slice A' xs.length c') xs.length (u64s xs) ∧ Below w.heap.size w w' := by
  obtain ⟨i0, hi, hz0, hz1, hz2⟩ := info_parts info29
  have H := Lib.hid hA
  clear hA
  go_enter Try.func45, Try.ntmps45
  go_wp2
  go_loopw [3, 4] (fun v i wr => ∃ k : Nat, k ≤ xs.length ∧ i = .int .i64 k ∧ wr.ownsRow w.heap.size 38 1 v k (u64s (xs.take k)) ∧ Below w.heap.size w wr) (fun _ i _ => xs.length - (intOf i).toNat)
  case atStart => exact ⟨0, Nat.zero_le _, rfl, World.ownsRow_nil _ _ _ _, Below.refl _ _⟩
  case round =>
    obtain ⟨k, hk, rfl, hown, hb⟩ := hrel
    have HO := Lib.hid hown
    have HB := Lib.hid hb
    clear hown hb
    by_cases hlt : k < xs.length
    · obtain ⟨x, hx⟩ : ∃ x, xs[k]? = some x := ⟨xs[k], List.getElem?_eq_getElem hlt⟩
      obtain ⟨b, o, rfl, _, hc⟩ := (H.out.on HB.out) k x hx
      have HT : Hid (u64s (xs.take k) ++ [.int .u64 x] = u64s (xs.take (k + 1))) := Lib.hid (by rw [List.take_add_one, hx]; simp [u64s])
      have hsz := HB.out.size
      have H3 : Hid (k + 1 ≤ maxLen) := Lib.hid (by unfold maxLen; omega)
      have H4 : Hid ((k + 1) * 8 ≤ 140737488355328) := Lib.hid (by omega)
      have H5 : Hid (w.heap.size ≤ (wr.alloc (.cells #[.int .u64 x] 38)).heap.size) := Lib.hid (by simp; omega)
      have hlt' : (k : Int) < (xs.length : Int) := by omega
      clear hx
      go_wp2_with (at_builtin; refine wpList_append_own _ rfl _ _ 42 rfl w.heap.size 38 i0 (.int .u64 0) 1 8 Try.underlying42 hi hz0 hz1 hz2 rfl (by decide) _ _ _ rfl (HO.out.alloc _) ⟨wr.heap.size, 0, none⟩ 1 1 [.int .u64 x] rfl rfl (new_cells _ _ _) (by intro u hu; simp at hu; subst hu; rfl) H3.out H4.out H5.out ?_; intro v' w1 hown1 hgr1 _; have HO1 := Lib.hid hown1; have HG1 := Lib.hid hgr1; clear hown1 hgr1)
      go_roundw
      case rel => exact ⟨k + 1, by omega, by go_num, by have := HO1.out; rwa [HT.out] at this, (HB.out.alloc hsz _).grown HG1.out (by simp; omega) (own_from HO.out)⟩
      case measure => simp [intOf]; omega
    · obtain rfl : k = xs.length := by omega
      obtain ⟨a, cc, rfl⟩ := own_form HO.out
      go_wp2
      go_ret
      exact ⟨a, cc, rfl, by have := HO.out; rwa [List.take_length] at this, HB.out⟩
theorem copyShot_any {w : World} {A : Option Addr} {c : Nat} {f : ShotH} (hA : Ext .u64 w A f.bu) (hl : f.bu.length ≤ 17592186044416) :
    Calls Try.prog 23 #[.agg #[.int .u64 f.c, .int .u64 f.su, .int .i64 f.le, .int .i64 f.gr, .slice A f.bu.length c]] w fun e w' => ∃ A' c', e = .returned (.agg #[.int .u64 f.c, .int .u64 f.su, .int .i64 f.le, .int .i64 f.gr, .slice A' f.bu.length c']) ∧ w'.ownsRow w.heap.size 38 1 (.slice A' f.bu.length c') f.bu.length (u64s f.bu) ∧ Below w.heap.size w w' := by
  have hb0 : Below w.heap.size w ((w.alloc (.cells #[.int .u64 f.c, .int .u64 f.su, .int .i64 f.le, .int .i64 f.gr, .slice A f.bu.length c] 44)).alloc (.cells #[.int .u64 0, .int .u64 0, .int .i64 0, .int .i64 0, .slice none 0 0] 44)) := ((Below.refl w.heap.size w).alloc (Nat.le_refl _) _).alloc (by simp) _
  have HB0 := Lib.hid hb0
  have HA := Lib.hid (hA.on hb0)
  have HR1 : Hid (Row ((w.alloc (.cells #[.int .u64 f.c, .int .u64 f.su, .int .i64 f.le, .int .i64 f.gr, .slice A f.bu.length c] 44)).alloc (.cells #[.int .u64 0, .int .u64 0, .int .i64 0, .int .i64 0, .slice none 0 0] 44)) w.heap.size 44 [.int .u64 f.c, .int .u64 f.su, .int .i64 f.le, .int .i64 f.gr, .slice A f.bu.length c]) := Lib.hid ((Row.new w _ _).alloc _)
  have HR2 : Hid (Row ((w.alloc (.cells #[.int .u64 f.c, .int .u64 f.su, .int .i64 f.le, .int .i64 f.gr, .slice A f.bu.length c] 44)).alloc (.cells #[.int .u64 0, .int .u64 0, .int .i64 0, .int .i64 0, .slice none 0 0] 44)) (w.heap.size + 1) 44 [.int .u64 0, .int .u64 0, .int .i64 0, .int .i64 0, .slice none 0 0]) := Lib.hid (Row.at_ (w := w.alloc _) (by simp))
  clear hA hb0
  go_enter Try.func23, Try.ntmps23
  go_wp2_with (go_at_call 45; (with_reducible refine (copy_any HA.out hl).mono ?_); rintro e w2 ⟨A2, c2, rfl, ho, hb⟩; have HO2 := Lib.hid ho; have HB2 := Lib.hid hb; have hr1 := HR1.out.below hb HR1.out.lt; have hr2 := HR2.out.below hb HR2.out.lt; obtain ⟨x0, x1, x2, x3, x4⟩ := hr1.five; obtain ⟨z0, z1, z2, z3, z4⟩ := hr2.five; have xl := hr1.lt; have xf := hr1.free; have zl := hr2.lt; have zf := hr2.free; have HQ1 := Lib.hid hr1; have HQ2 := Lib.hid hr2; clear ho hb hr1 hr2)
  refine bodyPost_ret (v := .agg #[.int .u64 f.c, .int .u64 f.su, .int .i64 f.le, .int .i64 f.gr, .slice A2 f.bu.length c2]) (by simp [results, Try.results23, go_sem, z0, z1, z2, z3, z4]) rfl ?_
  suffices hE : Part [w.heap.size, w.heap.size + 1] w2 _ from by
    have hb2 := HB0.out.trans (HB2.out.mono (by simp; omega))
    exact ⟨A2, c2, rfl, ownsRow_base (own_part HO2.out hE (fun q hq => by simp; exact ⟨own_off HO2.out HQ1.out (by decide) q hq, own_off HO2.out HQ2.out (by decide) q hq⟩)) (by simp; omega), hb2.trans (hE.below hb2.size (by simp))⟩
  repeat (first | (with_reducible exact Part.refl _ _) | refine Part.set ?_ (by simp) _)
section
variable {w : World} {bh bk bw m : Nat} {l h d v n : Int} {ws : List Int}
theorem hdo_out {p : Value} {why : Int} (hS : Calls Try.prog 13 #[p, .agg #[.int .u8 1, .int .i64 v, .int .u64 n]] ((w.alloc (.cells #[.int .u8 1, .int .i64 v, .int .u64 n] 40)).alloc (.cells #[.int .u64 0, .int .u64 0, .int .i64 0, .int .i64 0, .slice none 0 0] 44)) fun e w' => e = .returned (.tuple #[.pointer none, .int .i64 why]) ∧ Below ((w.alloc (.cells #[.int .u8 1, .int .i64 v, .int .u64 n] 40)).alloc (.cells #[.int .u64 0, .int .u64 0, .int .i64 0, .int .i64 0, .slice none 0 0] 44)).heap.size ((w.alloc (.cells #[.int .u8 1, .int .i64 v, .int .u64 n] 40)).alloc (.cells #[.int .u64 0, .int .u64 0, .int .i64 0, .int .i64 0, .slice none 0 0] 44)) w') (hy : why ≠ 0) :
    Calls Try.prog 49 #[p, .agg #[.int .u8 1, .int .i64 v, .int .u64 n]] w fun e w' => e = .returned (.tuple #[.agg #[.int .u64 0, .int .u64 0, .int .i64 0, .int .i64 0, .slice none 0 0], .int .i64 why]) ∧ Below w.heap.size w w' := by
  have HS := Lib.hid hS
  have HB0 : Hid (Below w.heap.size w ((w.alloc (.cells #[.int .u8 1, .int .i64 v, .int .u64 n] 40)).alloc (.cells #[.int .u64 0, .int .u64 0, .int .i64 0, .int .i64 0, .slice none 0 0] 44))) := Lib.hid (((Below.refl w.heap.size w).alloc (Nat.le_refl _) _).alloc (by simp) _)
  have HZ : Hid (Row ((w.alloc (.cells #[.int .u8 1, .int .i64 v, .int .u64 n] 40)).alloc (.cells #[.int .u64 0, .int .u64 0, .int .i64 0, .int .i64 0, .slice none 0 0] 44)) (w.heap.size + 1) 44 [.int .u64 0, .int .u64 0, .int .i64 0, .int .i64 0, .slice none 0 0]) := Lib.hid (Row.at_ (w := w.alloc _) (by simp))
  have hyb : (why != 0) = true := by simpa using hy
  clear hS hy
  go_enter Try.func49, Try.ntmps49
  go_wp2_with (go_at_call 13; (with_reducible refine HS.out.mono ?_); rintro e w2 ⟨rfl, hb⟩; have HB2 := Lib.hid hb; have hz := HZ.out.below hb HZ.out.lt; obtain ⟨z0, z1, z2, z3, z4⟩ := hz.five; have zl := hz.lt; have zf := hz.free; have HZ2 := Lib.hid hz; clear hb hz)
  refine bodyPost_ret (v := .tuple #[.agg #[.int .u64 0, .int .u64 0, .int .i64 0, .int .i64 0, .slice none 0 0], .int .i64 why]) (by simp [results, Try.results49, go_sem, z0, z1, z2, z3, z4]) rfl ⟨rfl, ?_⟩
  have hb2 := HB0.out.trans (HB2.out.mono (by simp; omega))
  repeat (first | (with_reducible exact hb2) | refine Below.setCell ?_ (by simp) _)
theorem hrecord_out {p : Value} {why : Int} (hS : Calls Try.prog 13 #[p, .agg #[.int .u8 1, .int .i64 v, .int .u64 n]] ((w.alloc (.cells #[.int .u8 1, .int .i64 v, .int .u64 n] 40)).alloc (.cells #[.int .u64 0, .int .u64 0, .int .i64 0, .int .i64 0, .slice none 0 0] 44)) fun e w' => e = .returned (.tuple #[.pointer none, .int .i64 why]) ∧ Below ((w.alloc (.cells #[.int .u8 1, .int .i64 v, .int .u64 n] 40)).alloc (.cells #[.int .u64 0, .int .u64 0, .int .i64 0, .int .i64 0, .slice none 0 0] 44)).heap.size ((w.alloc (.cells #[.int .u8 1, .int .i64 v, .int .u64 n] 40)).alloc (.cells #[.int .u64 0, .int .u64 0, .int .i64 0, .int .i64 0, .slice none 0 0] 44)) w') (hy : why ≠ 0) :
    Calls Try.prog 28 #[p, .int .i64 v, .int .u64 n] w fun e w' => e = .returned (.int .i64 why) ∧ Below w.heap.size w w' := by
  have HC := Lib.hid (hdo_out (w := w) hS hy)
  clear hS hy
  go_enter Try.func28, Try.ntmps28
  go_wp2_with (go_at_call 49; (with_reducible refine HC.out.mono ?_); rintro e w2 ⟨rfl, hb⟩; have HB := Lib.hid hb; clear hb)
  go_ret
  exact ⟨rfl, HB.out.alloc HB.out.size _⟩
/-- Record, whatever comes -/
def RecX (w : World) (bh bk bw : Nat) (l h d : Int) (m : Nat) (e : Ending) (w' : World) : Prop := ∃ why ws', e = .returned (.int .i64 why) ∧ HistM w' bh bk bw l h d m ws' ∧ Part [bw] w w'
theorem hrecord_ex (hs : HistM w bh bk bw l h d m ws) (hm : m = Sc.cnt l h d) (r : Sc.rightB l h d = true) :
    Calls Try.prog 28 #[.pointer (some ⟨bh, 0, none⟩), .int .i64 v, .int .u64 n] w (RecX w bh bk bw l h d m) := by
  have hs2 := (hs.alloc (.cells #[.int .u8 1, .int .i64 v, .int .u64 n] 40)).alloc (.cells #[.int .u64 0, .int .u64 0, .int .i64 0, .int .i64 0, .slice none 0 0] 44)
  have hno : ∀ e w', (e = .returned (.int .i64 2) ∧ Below w.heap.size w w') → RecX w bh bk bw l h d m e w' := fun e w' ⟨he, hb⟩ => ⟨2, ws, he, hs.on hb, Part.of_below hb (Nat.le_refl _) _⟩
  by_cases h0 : 0 ≤ v ∧ v ≤ h
  · by_cases hn : n = 0
    · exact (hrecord_out (hstart_rec_none hs2 r h0.1 h0.2 hn) (by decide)).mono hno
    · exact (hrecord_yes hs hm r h0.1 h0.2 hn).mono fun e w' ⟨he, hh, hP⟩ => ⟨0, _, he, hh, hP⟩
  · exact (hrecord_out (hstart_rec_out hs2 r (by omega)) (by decide)).mono hno
end
end Go.Proofs.Ytiifhkfkcljoiaa
