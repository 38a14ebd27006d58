/- THE WALKS of package ring: act. -/
import Derived.Test.YtjehcgeodcpcaaaKb
import Derived.Deep.Cut
import Derived.Deep.CutRange
import Derived.Deep.DeepCutAuto
import Derived.Deep.RegionHeld3
namespace Go.Proofs.Ytjehcgeodcpcaaa
open Go Go.RowKit

def noDid : List Value := [.int .u8 0, .int .i64 0, .int .u64 0, .int .u64 0, .bool false]
/-- behind the action: what it did lies in a block g of its own -/
structure MidA (w : World) (bk bw : Nat) (ws : List Int) (did : List Value) (g : Nat) (wx : World) : Prop where
  lo : w.heap.size < g
  words : Words wx bk bw ws
  did : Row wx g 48 did
  res : Row wx w.heap.size 48 noDid
  part : Part [bw] w wx
def MidAv (w : World) (bk bw : Nat) (ws : List Int) (did : List Value) (v : Value) (wx : World) : Prop := ∃ g, v = .pointer (some ⟨g, 0, none⟩) ∧ MidA w bk bw ws did g wx
section
variable {w w2 : World} {bk bw : Nat} {ws ws' : List Int} {k c saw put : Int} {ok : Bool}
theorem mida_a (h : Words w bk bw ws) (hW : Words w2 bk bw ws') (hP : Part [bw] (w.alloc (.cells noDid.toArray 48)).drew w2) {did : List Value} :
    MidA w bk bw ws' did w2.heap.size (w2.alloc (.cells did.toArray 48)) := by
  have hb := h.row.lt
  have h0 : w.heap.size ∉ [bw] := by simp; omega
  have hr : Row w2 w.heap.size 48 noDid := Row.part (Row.new w _ _).drew hP h0
  exact ⟨hr.lt, hW.alloc _, Row.new _ _ _, hr.alloc _, (Part.trans (S' := [bw]) (((Part.refl [bw] w).alloc _).drew) hP (by simp)).alloc _⟩
theorem mida_b (h : Words w bk bw ws) (hW : Words w2 bk bw ws') (hP : Part [bw] ((w.alloc (.cells noDid.toArray 48)).alloc (.cells noDid.toArray 48)).drew w2) :
    MidA w bk bw ws' [.int .u8 k, .int .i64 c, .int .u64 saw, .int .u64 put, .bool ok] (w.heap.size + 1)
      (((((w2.setCell ⟨w.heap.size + 1, 0, none⟩ (.int .u8 k)).setCell ⟨w.heap.size + 1, 1, none⟩ (.int .i64 c)).setCell ⟨w.heap.size + 1, 2, none⟩ (.int .u64 saw)).setCell ⟨w.heap.size + 1, 3, none⟩ (.int .u64 put)).setCell ⟨w.heap.size + 1, 4, none⟩ (.bool ok)) := by
  have hb := h.row.lt
  have hb' := h.head.lt
  have h0 : w.heap.size ∉ [bw] := by simp; omega
  have h1 : w.heap.size + 1 ∉ [bw] := by simp; omega
  have hr : Row w2 w.heap.size 48 noDid := Row.part ((Row.new w _ _).alloc _).drew hP h0
  have hr1 : Row w2 (w.heap.size + 1) 48 noDid := Row.part (Row.new2 w _ _ _ rfl).drew hP h1
  have hE : Part [w.heap.size + 1] w2 (((((w2.setCell ⟨w.heap.size + 1, 0, none⟩ (.int .u8 k)).setCell ⟨w.heap.size + 1, 1, none⟩ (.int .i64 c)).setCell ⟨w.heap.size + 1, 2, none⟩ (.int .u64 saw)).setCell ⟨w.heap.size + 1, 3, none⟩ (.int .u64 put)).setCell ⟨w.heap.size + 1, 4, none⟩ (.bool ok)) := by
    repeat (refine Part.set ?_ (by simp) _)
    exact Part.refl _ _
  refine ⟨by omega, hW.part hE (by simp; omega) (by simp; omega), ?_, hr.part hE (by simp), ?_⟩
  · exact Row.of_eq (((((hr1.set 0 _).set 1 _).set 2 _).set 3 _).set 4 _) rfl
  · refine Part.trans (S' := [w.heap.size + 1]) (Part.trans (S' := [bw]) ((((Part.refl [bw] w).alloc _).alloc _).drew) hP (by simp)) hE (fun q hq hm => ?_)
    simp at hm
    omega
theorem MidA.drew {did : List Value} {g : Nat} {wx : World} (h : MidA w bk bw ws did g wx) : MidA w bk bw ws did g wx.drew := ⟨h.lo, h.words.drew, h.did, h.res, h.part.drew⟩
theorem mida_end {wx wf : World} {did : List Value} {g : Nat} (hM : MidA w bk bw ws did g wx) (h : Words w bk bw ws') (hE : Part [w.heap.size] wx wf) : Words wf bk bw ws ∧ Part [bw] w wf := by
  have h1 := h.head.lt
  have h2 := h.row.lt
  refine ⟨hM.words.part hE (by simp; omega) (by simp; omega), Part.trans (S' := [w.heap.size]) hM.part hE (fun q hq hm => ?_)⟩
  simp at hm
  omega
end
/-- what act leaves -/
def ActedN (w : World) (bk bw : Nat) (ws : List Int) (v : Value) (e : Ending) (w' : World) : Prop := e = .returned v ∧ Words w' bk bw ws ∧ Part [bw] w w'
set_option maxHeartbeats 3200000
set_option maxRecDepth 100000
theorem nact_any {w : World} {br bk bw bp : Nat} {wd : Int} {ws ws' : List Int} {t c : Nat} {last n saw0 put0 ans why : Int} {nx : Value} (h : Rng w br bk bw wd ws) (hp : Row w bp 77 (pendN br (t : Int) last n saw0 put0 nx ans why)) (ht : t ≤ 4294967295) (hc : t % ws.length = c) {kd old new s p : Int} {ok : Bool}
    (hdo : ∀ w1, Words w1 bk bw ws → Calls Try.prog 41 #[.pointer (some ⟨bk, 0, none⟩), .agg #[.int .u8 kd, .int .i64 (c : Int), .int .u64 old, .int .u64 new]] w1 (Acted w1 bk bw ws' (.tuple #[.agg #[.int .u8 kd, .int .i64 (c : Int), .int .u64 s, .int .u64 p, .bool ok], .int .i64 0]))) :
    Calls Try.prog 35 #[.pointer (some ⟨bp, 0, none⟩), .int .u8 kd, .int .u64 old, .int .u64 new] w (ActedN w bk bw ws' (.agg #[.int .u8 kd, .int .i64 (c : Int), .int .u64 s, .int .u64 p, .bool ok])) := by
  obtain ⟨c0, c1, c2, c3, c4, c5, c6, c7, c8⟩ := pendN_cells hp
  have k0 := h.head.cell 0
  have hbp := hp.lt
  have hbr := h.head.lt
  have hbw := h.words.row.lt
  have HM1 : Hid (w.heap.size + 1 ∉ [bw]) := Lib.hid (by simp; omega)
  have n1 : ¬ w.heap.size + 1 = bp := by omega
  have n2 : ¬ bp = w.heap.size + 1 := by omega
  have n3 : ¬ w.heap.size + 1 = br := by omega
  have n4 : ¬ br = w.heap.size + 1 := by omega
  have HNB : Hid (bp ∉ [bw]) := Lib.hid (by simpa using hp.ne h.words.row (by decide))
  have HNT : Hid (br ∉ [bw]) := Lib.hid (by simpa using h.ne)
  have HH := Lib.hid h.head
  have HRG := Lib.hid h
  have H := Lib.hid h.words
  have HP := Lib.hid hp
  have HDO := Lib.hid hdo
  have HC := Lib.hid hc
  clear h hp hdo hc
  clear c2 c3 c4 c5 c6 c7 c8
  go_enter Try.func35, Try.ntmps35
  go_upto_region 1 with fail
  go_cut [9] (fun s9 wx => MidAv w bk bw ws' [.int .u8 kd, .int .i64 (c : Int), .int .u64 s, .int .u64 p, .bool ok] s9 wx)
  case first =>
    go_region_held3 (fun w' => w'.cell? ⟨bp, 0, none⟩ = some (.pointer (some ⟨br, 0, none⟩)) ∧ w'.cell? ⟨bp, 1, none⟩ = some (.int .i64 (t : Int)) ∧ w'.cell? ⟨br, 0, none⟩ = some (.pointer (some ⟨bk, 0, none⟩)))
      (first | (with_reducible exact ⟨q0, q1, qu⟩) | go_keep)
      (first
      | (go_at_call 42; (with_reducible refine (rcell_at (HRG.out.alloc _).drew ht HC.out).mono ?_); rintro e wx ⟨rfl, rfl⟩)
      | (go_at_call 42; (with_reducible refine (rcell_at ((HRG.out.alloc _).alloc _).drew ht HC.out).mono ?_); rintro e wx ⟨rfl, rfl⟩)
      | (go_at_call 41; (with_reducible refine (HDO.out _ (H.out.alloc _).drew).mono ?_); rintro e w2 ⟨rfl, hW2, hP2⟩; have hpr := Row.part (Row.drew (HP.out.alloc _)) hP2 HNB.out; obtain ⟨q0, q1, q2, q3, q4, q5, q6, q7, q8⟩ := pendN_cells hpr; have qu := (Row.part (Row.drew (HH.out.alloc _)) hP2 HNT.out).cell 0; have qlt := hpr.lt; have HMA := Lib.hid (mida_a H.out hW2 hP2 (did := [.int .u8 kd, .int .i64 (c : Int), .int .u64 s, .int .u64 p, .bool ok])); clear hpr hW2 hP2)
      | (go_at_call 41; (with_reducible refine (HDO.out _ ((H.out.alloc _).alloc _).drew).mono ?_); rintro e w2 ⟨rfl, hW2, hP2⟩; have hpr := Row.part (Row.drew ((HP.out.alloc _).alloc _)) hP2 HNB.out; obtain ⟨q0, q1, q2, q3, q4, q5, q6, q7, q8⟩ := pendN_cells hpr; have qu := (Row.part (Row.drew ((HH.out.alloc _).alloc _)) hP2 HNT.out).cell 0; have HMB := Lib.hid (mida_b H.out hW2 hP2 (k := kd) (c := (c : Int)) (saw := s) (put := p) (ok := ok)); have hr3 : Row w2 (w.heap.size + 1) 48 noDid := Row.part (Row.new2 w _ _ _ rfl).drew hP2 HM1.out; unfold noDid at hr3; obtain ⟨b0, b1, b2, b3, b4⟩ := hr3.five; have hf3 := hr3.free; have hlt3 := hr3.lt; clear hpr hr3 hW2 hP2))
    all_goals
      go_wp2_with fail
      go_meet
      first | exact ⟨_, rfl, HMA.out⟩ | exact ⟨_, rfl, HMB.out⟩ | exact ⟨_, rfl, HMA.out.drew⟩ | exact ⟨_, rfl, HMB.out.drew⟩
  case rest =>
    obtain ⟨g, rfl, hM⟩ := hcut
    have HM := Lib.hid hM
    obtain ⟨b0, b1, b2, b3, b4⟩ := hM.did.five
    have blt := hM.did.lt
    have hres := hM.res
    unfold noDid at hres
    obtain ⟨d0, d1, d2, d3, d4⟩ := hres.five
    have df := hres.free
    have dlt := hres.lt
    have hg := hM.lo
    have e3 : ¬ g = w.heap.size := by omega
    have e4 : ¬ w.heap.size = g := by omega
    clear hM hres
    go_wp2
    refine bodyPost_ret (v := .agg #[.int .u8 kd, .int .i64 (c : Int), .int .u64 s, .int .u64 p, .bool ok]) (by simp [results, Try.results35, go_sem, d0, d1, d2, d3, d4]) rfl ⟨rfl, ?_⟩
    refine mida_end HM.out H.out ?_
    repeat (first | (with_reducible exact Part.refl _ _) | refine Part.set ?_ (by simp) _)
end Go.Proofs.Ytjehcgeodcpcaaa
