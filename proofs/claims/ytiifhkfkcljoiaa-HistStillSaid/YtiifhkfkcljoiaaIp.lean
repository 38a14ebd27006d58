/- THE WALKS of package hist: Record, Show; nil things; the document's Words and Same. -/
import Derived.Test.YtiifhkfkcljoiaaIo
import Derived.Deep.RegionLaw
import Derived.Deep.AppendLies
import Derived.Laws.MakeOwn
import Derived.Test.YtiifhkfkcljoiaaEx
namespace Go.Proofs.Ytiifhkfkcljoiaa
open Go Go.RowKit
set_option maxRecDepth 100000
set_option maxHeartbeats 1600000
section
variable {w : World} {bp bh bk bw m : Nat} {nx : Value} {s : ShM} {o : OpH} {l h d k v n why : Int} {ws : List Int}
theorem hdo_no {p : Value} (hS : ∀ w : World, Calls Try.prog 13 #[p, .agg #[.int .u8 k, .int .i64 v, .int .u64 n]] w fun e w' => e = .returned (.tuple #[.pointer none, .int .i64 why]) ∧ Below w.heap.size w w') (hy : why ≠ 0) :
    Calls Try.prog 49 #[p, .agg #[.int .u8 k, .int .i64 v, .int .u64 n]] w fun e w' => e = .returned (.tuple #[.agg #[.int .u64 0, .int .u64 0, .int .i64 0, .int .i64 0, .slice none 0 0], .int .i64 why]) ∧ Below w.heap.size w w' := by
  have HS := Lib.hid hS
  have HB0 : Hid (Below w.heap.size w ((w.alloc (.cells #[.int .u8 k, .int .i64 v, .int .u64 n] 40)).alloc (.cells #[.int .u64 0, .int .u64 0, .int .i64 0, .int .i64 0, .slice none 0 0] 44))) := Lib.hid (((Below.refl w.heap.size w).alloc (Nat.le_refl _) _).alloc (by simp) _)
  have HZ : Hid (Row ((w.alloc (.cells #[.int .u8 k, .int .i64 v, .int .u64 n] 40)).alloc (.cells #[.int .u64 0, .int .u64 0, .int .i64 0, .int .i64 0, .slice none 0 0] 44)) (w.heap.size + 1) 44 [.int .u64 0, .int .u64 0, .int .i64 0, .int .i64 0, .slice none 0 0]) := Lib.hid (Row.at_ (w := w.alloc (.cells #[.int .u8 k, .int .i64 v, .int .u64 n] 40)) (by simp))
  have hyb : (why != 0) = true := by simpa using hy
  clear hS hy
  go_enter Try.func49, Try.ntmps49
  go_wp2_with (go_at_call 13; (with_reducible refine (HS.out _).mono ?_); rintro e w2 ⟨rfl, hb⟩; have HB2 := Lib.hid hb; have hz := HZ.out.below hb HZ.out.lt; obtain ⟨z0, z1, z2, z3, z4⟩ := hz.five; have zl := hz.lt; have zf := hz.free; have HZ2 := Lib.hid hz; clear hb hz)
  refine bodyPost_ret (v := .tuple #[.agg #[.int .u64 0, .int .u64 0, .int .i64 0, .int .i64 0, .slice none 0 0], .int .i64 why]) (by simp [results, Try.results49, go_sem, z0, z1, z2, z3, z4]) rfl ⟨rfl, ?_⟩
  have hb2 := HB0.out.trans (HB2.out.mono (by simp; omega))
  repeat (first | (with_reducible exact hb2) | refine Below.setCell ?_ (by simp) _)
theorem ix_lt (r : Sc.rightB l h d = true) (h0 : 0 ≤ v) (h1 : v ≤ h) : ixH l d v < Sc.cnt l h d := by
  obtain ⟨a1, a2, a3, a4, a5, a6⟩ := Sc.right_of r
  unfold ixH Sc.cnt
  exact Nat.lt_succ_of_le (Sc.SC.idx_mono (by omega) (by omega))
theorem ok_new (r : Sc.rightB l h d = true) (h0 : 0 ≤ v) (h1 : v ≤ h) : OkH (Sc.cnt l h d) (newR v n (ixH l d v)) := fun _ => ⟨by obtain ⟨a1, a2, a3, a4, a5, a6⟩ := Sc.right_of r; unfold U64 newR; dsimp only; omega, ix_lt r h0 h1⟩
theorem hrecord_yes (hs : HistM w bh bk bw l h d m ws) (hm : m = Sc.cnt l h d) (r : Sc.rightB l h d = true) (h0 : 0 ≤ v) (h1 : v ≤ h) (hn : n ≠ 0) :
    Calls Try.prog 28 #[.pointer (some ⟨bh, 0, none⟩), .int .i64 v, .int .u64 n] w fun e w' => e = .returned (.int .i64 0) ∧ HistM w' bh bk bw l h d m (recW m ws v n (ixH l d v)) ∧ Part [bw] w w' := by
  have hpos : 0 < m := by rw [hm]; have := (cnt_few r).1; omega
  have hc := hdo_op (w := w) (k := 1) (v := v) (n := n) (o0 := newR v n (ixH l d v)) hs (fun w hs => hstart_rec hs r h0 h1 hn) (by rw [hm]; exact ok_new r h0 h1) alone_new hpos
  have HC := Lib.hid hc
  clear hc hs
  go_enter Try.func28, Try.ntmps28
  go_wp2_with (go_at_call 49; (with_reducible refine HC.out.mono ?_); rintro e w2 ⟨A, c, rfl, ho, hh, hP⟩; have HH := Lib.hid hh; have HP := Lib.hid hP; clear ho hh hP)
  go_ret
  exact ⟨rfl, HH.out.alloc _, HP.out.alloc _⟩
theorem hrecord_no {p : Value} (hS : ∀ w : World, Calls Try.prog 13 #[p, .agg #[.int .u8 1, .int .i64 v, .int .u64 n]] w fun e w' => e = .returned (.tuple #[.pointer none, .int .i64 why]) ∧ Below w.heap.size w w') (hy : why ≠ 0) :
    Calls Try.prog 28 #[p, .int .i64 v, .int .u64 n] w fun e w' => e = .returned (.int .i64 why) ∧ Below w.heap.size w w' := by
  have HC := Lib.hid (hdo_no (w := w) (k := 1) (v := v) (n := n) hS hy)
  clear hS hy
  go_enter Try.func28, Try.ntmps28
  go_wp2_with (go_at_call 49; (with_reducible refine HC.out.mono ?_); rintro e w2 ⟨rfl, hb⟩; have HB := Lib.hid hb; clear hb)
  go_ret
  exact ⟨rfl, HB.out.alloc HB.out.size _⟩
/-- what a Show leaves -/
def ShownH (w : World) (bh bk bw : Nat) (l h d : Int) (m : Nat) (ws : List Int) (f : ShotH) (e : Ending) (w' : World) : Prop :=
  ∃ A c, e = .returned (.agg #[.int .u64 f.c, .int .u64 f.su, .int .i64 f.le, .int .i64 f.gr, .slice A f.bu.length c]) ∧ w'.ownsRow w.heap.size 38 1 (.slice A f.bu.length c) f.bu.length (u64s f.bu) ∧ HistM w' bh bk bw l h d m ws ∧ Part [bw] w w'
theorem hshow_any (hs : HistM w bh bk bw l h d m ws) (hm : 0 < m) : Calls Try.prog 29 #[.pointer (some ⟨bh, 0, none⟩)] w (ShownH w bh bk bw l h d m ws (shotH m ws)) := by
  have hbwlt := hs.words.row.lt
  have hc := hdo_op (w := w.alloc (.cells #[.int .u64 0, .int .u64 0, .int .i64 0, .int .i64 0, .slice none 0 0] 44)) (k := 2) (v := 0) (n := 0) (o0 := newS) (hs.alloc _) (fun w hs => hstart_show hs) (fun hk => by cases hk) alone_show hm
  rw [fin_show, show finW m ws newS = ws by simp [finW, newS]] at hc
  have HC := Lib.hid hc
  have HZ := Lib.hid (Row.new w 44 [.int .u64 0, .int .u64 0, .int .i64 0, .int .i64 0, .slice none 0 0])
  have HN : Hid (w.heap.size ∉ [bw]) := Lib.hid (by simp; omega)
  clear hc hs
  generalize shotH m ws = f at *
  obtain ⟨fc, fsu, fle, fgr, fbu⟩ := f
  go_enter Try.func29, Try.ntmps29
  go_wp2_with (go_at_call 49; (with_reducible refine HC.out.mono ?_); rintro e w2 ⟨A, c, rfl, ho, hh, hP⟩; have HO := Lib.hid ho; have HH := Lib.hid hh; have HP := Lib.hid hP; have hz := HZ.out.part hP HN.out; have HZ2 := Lib.hid hz; obtain ⟨z0, z1, z2, z3, z4⟩ := hz.five; have zl := hz.lt; have zf := hz.free; clear ho hh hP hz)
  refine bodyPost_ret (v := .agg #[.int .u64 fc, .int .u64 fsu, .int .i64 fle, .int .i64 fgr, .slice A fbu.length c]) (by simp [results, Try.results29, go_sem, z0, z1, z2, z3, z4, zl]) rfl ?_
  suffices hE : Part [w.heap.size] w2 _ from by
    have hp2 : Part [bw] w w2 := ((Part.refl [bw] w).alloc _).then_ HP.out
    refine ⟨A, c, rfl, ownsRow_base (own_part HO.out hE (fun q hq => by simpa using own_off HO.out HZ2.out (by decide) q hq)) (by simp), ⟨HH.out.head.part hE (by simpa using HH.out.head.ne HZ2.out (by decide)), HH.out.words.part hE (by simpa using HH.out.words.head.ne HZ2.out (by decide)) (by simpa using HH.out.words.row.ne HZ2.out (by decide)), HH.out.len, HH.out.few⟩, hp2.trans hE (fun q hq hm => ?_)⟩
    simp at hm
    omega
  repeat (first | (with_reducible exact Part.refl _ _) | refine Part.set ?_ (by simp) _ | refine Part.alloc ?_ _)
theorem hshow_nil : Calls Try.prog 29 #[.pointer none] w fun e w' => e = .returned (.agg #[.int .u64 0, .int .u64 0, .int .i64 0, .int .i64 0, .slice none 0 0]) ∧ Below w.heap.size w w' := by
  have HC := Lib.hid (hdo_no (w := w.alloc (.cells #[.int .u64 0, .int .u64 0, .int .i64 0, .int .i64 0, .slice none 0 0] 44)) (k := 2) (v := 0) (n := 0) (fun w => hstart_nil w) (by decide))
  have HB0 : Hid (Below w.heap.size w (w.alloc (.cells #[.int .u64 0, .int .u64 0, .int .i64 0, .int .i64 0, .slice none 0 0] 44))) := Lib.hid ((Below.refl w.heap.size w).alloc (Nat.le_refl _) _)
  have HZ := Lib.hid (Row.new w 44 [.int .u64 0, .int .u64 0, .int .i64 0, .int .i64 0, .slice none 0 0])
  go_enter Try.func29, Try.ntmps29
  go_wp2_with (go_at_call 49; (with_reducible refine HC.out.mono ?_); rintro e w2 ⟨rfl, hb⟩; have HB := Lib.hid hb; have hz := HZ.out.below hb HZ.out.lt; obtain ⟨z0, z1, z2, z3, z4⟩ := hz.five; have zl := hz.lt; have zf := hz.free; clear hb hz)
  refine bodyPost_ret (v := .agg #[.int .u64 0, .int .u64 0, .int .i64 0, .int .i64 0, .slice none 0 0]) (by simp [results, Try.results29, go_sem, z0, z1, z2, z3, z4, zl]) rfl ⟨rfl, ?_⟩
  have hb2 := HB0.out.trans (HB.out.mono (by simp))
  have hsz := hb2.size
  repeat (first | (with_reducible exact hb2) | refine Below.setCell ?_ (by simp) _ | refine Below.alloc ?_ (by simpa using hsz) _)
theorem hall_nil : Calls Try.prog 22 #[.pointer none] w fun e w' => e = .returned (.slice none 0 0) ∧ w = w' := by
  go_enter Try.func22, Try.ntmps22
  go_wp2
  go_ret
  exact ⟨rfl, rfl⟩
theorem hdone_nil : Calls Try.prog 18 #[.pointer none] w fun e w' => e = .returned (.bool true) ∧ w = w' := by
  go_enter Try.func18, Try.ntmps18
  go_wp2
  go_ret
  exact ⟨rfl, rfl⟩
theorem hstep_nil : Calls Try.prog 16 #[.pointer none] w fun e w' => e = .returned (.tuple #[.agg #[.int .u8 0, .int .i64 0, .int .u64 0, .int .u64 0, .bool false], .bool true]) ∧ Below w.heap.size w w' := by
  go_enter Try.func16, Try.ntmps16
  go_wp2_with (go_at_call 18; refine hdone_nil.mono ?_; rintro e wx ⟨rfl, rfl⟩)
  refine bodyPost_ret (v := .tuple #[.agg #[.int .u8 0, .int .i64 0, .int .u64 0, .int .u64 0, .bool false], .bool true]) (by simp [results, Try.results16, go_sem]) rfl ⟨rfl, ?_⟩
  repeat (first | (with_reducible exact Below.refl _ _) | refine Below.alloc ?_ (by simp; try omega) _ | refine Below.setCell ?_ (by simp) _)
theorem hanswer_nil : Calls Try.prog 20 #[.pointer none] w fun e w' => e = .returned (.agg #[.int .u64 0, .int .u64 0, .int .i64 0, .int .i64 0, .slice none 0 0]) ∧ Below w.heap.size w w' := by
  go_enter Try.func20, Try.ntmps20
  go_wp2
  refine bodyPost_ret (v := .agg #[.int .u64 0, .int .u64 0, .int .i64 0, .int .i64 0, .slice none 0 0]) (by simp [results, Try.results20, go_sem]) rfl ⟨rfl, ?_⟩
  repeat (first | (with_reducible exact Below.refl _ _) | refine Below.alloc ?_ (by simp; try omega) _ | refine Below.setCell ?_ (by simp) _)
end
theorem ext_nil (w : World) : Ext .u64 w none [] := fun j x hx => by simp at hx
theorem own_ext {w : World} {base c : Nat} {A : Option Addr} {xs : List Int} (h : w.ownsRow base 38 1 (.slice A xs.length c) xs.length (u64s xs)) : Ext .u64 w A xs := fun j x hx => by
  have hlt := lt_of_get hx
  obtain ⟨g, c', e, _, hg⟩ := own_some h (by omega)
  cases e
  exact ⟨g, 0, rfl, hg, by rw [Nat.zero_add]; exact own_cell h (by rw [u64s_get, hx]; rfl)⟩
theorem words_yes {w : World} {A B : Option Addr} {c c' : Nat} {xs : List Int} (hA : Ext .u64 w A xs) (hB : Ext .u64 w B xs) (hl : xs.length ≤ 17592186044416) :
    Calls Try.prog 21 #[.slice A xs.length c, .slice B xs.length c'] w fun e w' => e = .returned (.bool true) ∧ Below w.heap.size w w' := by
  have HA := Lib.hid hA
  have HB := Lib.hid hB
  clear hA hB
  go_enter Try.func21, Try.ntmps21
  go_wp2
  go_loopw [5] (fun i wr => ∃ k : Nat, k ≤ xs.length ∧ i = .int .i64 k ∧ Below w.heap.size w wr) (fun i _ => xs.length - (intOf i).toNat)
  case atStart => exact ⟨0, Nat.zero_le _, rfl, Below.refl _ _⟩
  case round =>
    obtain ⟨k, hk, rfl, hb⟩ := hrel
    by_cases hlt : k < xs.length
    · obtain ⟨x, hx⟩ : ∃ x, xs[k]? = some x := ⟨xs[k], List.getElem?_eq_getElem hlt⟩
      obtain ⟨b1, o1, rfl, _, hc⟩ := (HA.out.on hb) k x hx
      obtain ⟨b2, o2, rfl, _, hc'⟩ := (HB.out.on hb) k x hx
      have hlt' : (k : Int) < (xs.length : Int) := by omega
      have hxx : ((x : Int) != x) = false := by simp
      have HBB := Lib.hid hb
      clear hx hb
      go_wp2
      go_quiet (fail)
      go_wp2
      go_roundw
      case rel => exact ⟨k + 1, by omega, by go_num, ⟨HBB.out.os, HBB.out.tape, HBB.out.output, HBB.out.size, HBB.out.block⟩⟩
      case measure => simp [intOf]; omega
    · obtain rfl : k = xs.length := by omega
      have HBB := Lib.hid hb
      clear hb
      go_wp2
      go_ret
      exact ⟨rfl, HBB.out⟩
theorem same_yes {w : World} {A B : Option Addr} {c c' : Nat} {x1 x2 x3 x4 : Int} {xs : List Int} (hA : Ext .u64 w A xs) (hB : Ext .u64 w B xs) (hl : xs.length ≤ 17592186044416) :
    Calls Try.prog 19 #[.agg #[.int .u64 x1, .int .u64 x2, .int .i64 x3, .int .i64 x4, .slice A xs.length c], .agg #[.int .u64 x1, .int .u64 x2, .int .i64 x3, .int .i64 x4, .slice B xs.length c']] w fun e w' => e = .returned (.bool true) ∧ Below w.heap.size w w' := by
  have hb0 : Below w.heap.size w ((w.alloc (.cells #[.int .u64 x1, .int .u64 x2, .int .i64 x3, .int .i64 x4, .slice A xs.length c] 44)).alloc (.cells #[.int .u64 x1, .int .u64 x2, .int .i64 x3, .int .i64 x4, .slice B xs.length c'] 44)) := ((Below.refl w.heap.size w).alloc (Nat.le_refl _) _).alloc (by simp) _
  have HB0 := Lib.hid hb0
  have HA := Lib.hid (hA.on hb0)
  have HB := Lib.hid (hB.on hb0)
  have e1 : ((x1 : Int) == x1) = true := by simp
  have e2 : ((x2 : Int) == x2) = true := by simp
  have e3 : ((x3 : Int) == x3) = true := by simp
  have e4 : ((x4 : Int) == x4) = true := by simp
  clear hA hB hb0
  go_enter Try.func19, Try.ntmps19
  go_wp2_with (go_at_call 21; refine (words_yes HA.out HB.out hl).mono ?_; rintro e w2 ⟨rfl, hb⟩; have HB2 := Lib.hid (HB0.out.trans (hb.mono HB0.out.size)); clear hb)
  go_ret
  exact ⟨rfl, HB2.out⟩
end Go.Proofs.Ytiifhkfkcljoiaa
