/- THE WALKS of package quota: act. -/
import Derived.Test.YteoekkhgpdhnhaaDoorBa
import Derived.Deep.Cut
import Derived.Deep.CutRange
import Derived.Deep.DeepCutAuto
namespace Go.Proofs.YteoekkhgpdhnhaaDoor
open Go Go.RowKit

def noDid : List Value := [.int .u8 0, .int .i64 0, .int .u64 0, .int .u64 0, .bool false]
/-- behind the action: what it did lies in a block g of its own; r: the block of the answer -/
structure MidA (w : World) (r bk bw : Nat) (ws : List Int) (did : List Value) (g : Nat) (wx : World) : Prop where
  lo : r < g
  words : Words wx bk bw ws
  did : Row wx g 39 did
  res : Row wx r 39 noDid
  part : Part [bw] w wx
def MidAv (w : World) (r bk bw : Nat) (ws : List Int) (did : List Value) (v : Value) (wx : World) : Prop := ∃ g, v = .pointer (some ⟨g, 0, none⟩) ∧ MidA w r bk bw ws did g wx
section
variable {w w2 : World} {r bk bw : Nat} {ws ws' : List Int} {k c saw put : Int} {ok : Bool}
theorem Part.undrew {S : List Nat} {w' : World} (h : Part S w w') : Part S w.drew w' := ⟨h.os, h.tape, h.output, h.size, h.block⟩
theorem mida_a (hr : w.heap.size = r) (h : Words w bk bw ws) (hW : Words w2 bk bw ws') (hP : Part [bw] (w.alloc (.cells noDid.toArray 39)).drew w2) {did : List Value} :
    MidA w r bk bw ws' did w2.heap.size (w2.alloc (.cells did.toArray 39)) := by
  subst hr
  have hb := h.row.lt
  have h0 : w.heap.size ∉ [bw] := by simp; omega
  have hr : Row w2 w.heap.size 39 noDid := Row.part (Row.new w _ _).drew hP h0
  exact ⟨hr.lt, hW.alloc _, Row.new _ _ _, hr.alloc _, (Part.trans (S' := [bw]) (((Part.refl [bw] w).alloc _).drew) hP (by simp)).alloc _⟩
theorem mida_b (hr : w.heap.size = r) (h : Words w bk bw ws) (hW : Words w2 bk bw ws') (hP : Part [bw] ((w.alloc (.cells noDid.toArray 39)).alloc (.cells noDid.toArray 39)).drew w2) :
    MidA w r bk bw ws' [.int .u8 k, .int .i64 c, .int .u64 saw, .int .u64 put, .bool ok] (r + 1)
      (((((w2.setCell ⟨r + 1, 0, none⟩ (.int .u8 k)).setCell ⟨r + 1, 1, none⟩ (.int .i64 c)).setCell ⟨r + 1, 2, none⟩ (.int .u64 saw)).setCell ⟨r + 1, 3, none⟩ (.int .u64 put)).setCell ⟨r + 1, 4, none⟩ (.bool ok)) := by
  subst hr
  have hb := h.row.lt
  have hb' := h.head.lt
  have h0 : w.heap.size ∉ [bw] := by simp; omega
  have h1 : w.heap.size + 1 ∉ [bw] := by simp; omega
  have hr : Row w2 w.heap.size 39 noDid := Row.part ((Row.new w _ _).alloc _).drew hP h0
  have hr1 : Row w2 (w.heap.size + 1) 39 noDid := Row.part (Row.new2 w _ _ _ rfl).drew hP h1
  have hE : Part [w.heap.size + 1] w2 (((((w2.setCell ⟨w.heap.size + 1, 0, none⟩ (.int .u8 k)).setCell ⟨w.heap.size + 1, 1, none⟩ (.int .i64 c)).setCell ⟨w.heap.size + 1, 2, none⟩ (.int .u64 saw)).setCell ⟨w.heap.size + 1, 3, none⟩ (.int .u64 put)).setCell ⟨w.heap.size + 1, 4, none⟩ (.bool ok)) := by
    repeat (refine Part.set ?_ (by simp) _)
    exact Part.refl _ _
  refine ⟨by omega, hW.part hE (by simp; omega) (by simp; omega), ?_, hr.part hE (by simp), ?_⟩
  · exact Row.of_eq (((((hr1.set 0 _).set 1 _).set 2 _).set 3 _).set 4 _) rfl
  · refine Part.trans (S' := [w.heap.size + 1]) (Part.trans (S' := [bw]) ((((Part.refl [bw] w).alloc _).alloc _).drew) hP (by simp)) hE (fun q hq hm => ?_)
    simp at hm
    omega
theorem MidA.drew {did : List Value} {g : Nat} {wx : World} (h : MidA w r bk bw ws did g wx) : MidA w r bk bw ws did g wx.drew := ⟨h.lo, h.words.drew, h.did, h.res, h.part.drew⟩
theorem mida_end {wx wf : World} {did : List Value} {g : Nat} (hr : w.heap.size ≤ r) (hM : MidA w r bk bw ws did g wx) (h : Words w bk bw ws') (hE : Part [r] wx wf) : Words wf bk bw ws ∧ Part [bw] w wf := by
  have h1 := h.head.lt
  have h2 := h.row.lt
  refine ⟨hM.words.part hE (by simp; omega) (by simp; omega), Part.trans (S' := [r]) hM.part hE (fun q hq hm => ?_)⟩
  simp at hm
  omega
theorem mida_act_end {w0 wx wf : World} {did : List Value} {g : Nat} (h0 : Part [bw] w0 w) (hr : w.heap.size ≤ r) (hM : MidA w r bk bw ws did g wx) (h : Words w bk bw ws') (hE : Part [r] wx wf) : Words wf bk bw ws ∧ Part [bw] w0 wf :=
  have hE := mida_end hr hM h hE
  ⟨hE.1, h0.then_ hE.2⟩
/-- the block of what an action did, made ahead of the call -/
theorem nodid_at {o : Obj} {n : Nat} (hr : w.heap.size = r) (hn : n = r + 1) (h : bw < w.heap.size) (hP : Part [bw] ((w.alloc o).alloc (.cells noDid.toArray 39)).drew w2) : Row w2 n 39 noDid := by
  subst hr hn
  exact Row.part (Row.new2 w _ _ _ rfl).drew hP (by simp; omega)
end
set_option maxHeartbeats 3200000
set_option maxRecDepth 100000
theorem bact_any {w : World} {bq bk bw bp : Nat} {ba : Int} {ws ws' : List Int} {own saw hand ps sum ans : Int} {nx : Value} (h : QuoM w bq bk bw ba ws) (hp : Row w bp 97 (pendB bq own nx saw hand ps sum ans)) {kd c old new s p : Int} {ok : Bool}
    (hdo : ∀ w1, Words w1 bk bw ws → Calls Tryd.prog 74 #[.pointer (some ⟨bk, 0, none⟩), .agg #[.int .u8 kd, .int .i64 c, .int .u64 old, .int .u64 new]] w1 (Acted w1 bk bw ws' (.tuple #[.agg #[.int .u8 kd, .int .i64 c, .int .u64 s, .int .u64 p, .bool ok], .int .i64 0]))) :
    Calls Tryd.prog 62 #[.pointer (some ⟨bp, 0, none⟩), .agg #[.int .u8 kd, .int .i64 c, .int .u64 old, .int .u64 new]] w (Acted w bk bw ws' (.agg #[.int .u8 kd, .int .i64 c, .int .u64 s, .int .u64 p, .bool ok])) := by
  have c0 : w.cell? ⟨bp, 0, none⟩ = some (.pointer (some ⟨bq, 0, none⟩)) := hp.cell 0
  have k0 := h.hc
  have hbp := hp.lt
  have hbq := h.head.lt
  have hbw := h.words.row.lt
  have HA := Lib.hid (h.words.alloc (.cells [.int .u8 kd, .int .i64 c, .int .u64 old, .int .u64 new].toArray 153))
  have HNB : Hid (bp ∉ [bw]) := Lib.hid (by simpa using hp.ne h.words.row (by decide))
  have HNT : Hid (bq ∉ [bw]) := Lib.hid (by simpa using h.ne)
  have HNA : Hid (w.heap.size ∉ [bw]) := Lib.hid (by simp; omega)
  have HP := Lib.hid (hp.alloc (.cells [.int .u8 kd, .int .i64 c, .int .u64 old, .int .u64 new].toArray 153))
  have HH := Lib.hid (h.head.alloc (.cells [.int .u8 kd, .int .i64 c, .int .u64 old, .int .u64 new].toArray 153))
  have HX := Lib.hid (Row.new w 153 [.int .u8 kd, .int .i64 c, .int .u64 old, .int .u64 new])
  have kp : ((((w.alloc (.cells #[.int .u8 kd, .int .i64 c, .int .u64 old, .int .u64 new] 153)).alloc (.cells #[.int .u8 0, .int .i64 0, .int .u64 0, .int .u64 0, .bool false] 39)).alloc (.cells #[.int .u8 0, .int .i64 0, .int .u64 0, .int .u64 0, .bool false] 39)).drew).cell? ⟨bp, 0, none⟩ = some (.pointer (some ⟨bq, 0, none⟩)) := (Row.drew ((HP.out.alloc _).alloc _)).cell 0
  have kq : ((((w.alloc (.cells #[.int .u8 kd, .int .i64 c, .int .u64 old, .int .u64 new] 153)).alloc (.cells #[.int .u8 0, .int .i64 0, .int .u64 0, .int .u64 0, .bool false] 39)).alloc (.cells #[.int .u8 0, .int .i64 0, .int .u64 0, .int .u64 0, .bool false] 39)).drew).cell? ⟨bq, 0, none⟩ = some (.pointer (some ⟨bk, 0, none⟩)) := (Row.drew ((HH.out.alloc _).alloc _)).cell 0
  have ka0 : ((((w.alloc (.cells #[.int .u8 kd, .int .i64 c, .int .u64 old, .int .u64 new] 153)).alloc (.cells #[.int .u8 0, .int .i64 0, .int .u64 0, .int .u64 0, .bool false] 39)).alloc (.cells #[.int .u8 0, .int .i64 0, .int .u64 0, .int .u64 0, .bool false] 39)).drew).cell? ⟨w.heap.size, 0, none⟩ = some (.int .u8 kd) := (Row.drew ((HX.out.alloc _).alloc _)).cell 0
  have ka1 : ((((w.alloc (.cells #[.int .u8 kd, .int .i64 c, .int .u64 old, .int .u64 new] 153)).alloc (.cells #[.int .u8 0, .int .i64 0, .int .u64 0, .int .u64 0, .bool false] 39)).alloc (.cells #[.int .u8 0, .int .i64 0, .int .u64 0, .int .u64 0, .bool false] 39)).drew).cell? ⟨w.heap.size, 1, none⟩ = some (.int .i64 c) := (Row.drew ((HX.out.alloc _).alloc _)).cell 1
  have ka2 : ((((w.alloc (.cells #[.int .u8 kd, .int .i64 c, .int .u64 old, .int .u64 new] 153)).alloc (.cells #[.int .u8 0, .int .i64 0, .int .u64 0, .int .u64 0, .bool false] 39)).alloc (.cells #[.int .u8 0, .int .i64 0, .int .u64 0, .int .u64 0, .bool false] 39)).drew).cell? ⟨w.heap.size, 2, none⟩ = some (.int .u64 old) := (Row.drew ((HX.out.alloc _).alloc _)).cell 2
  have ka3 : ((((w.alloc (.cells #[.int .u8 kd, .int .i64 c, .int .u64 old, .int .u64 new] 153)).alloc (.cells #[.int .u8 0, .int .i64 0, .int .u64 0, .int .u64 0, .bool false] 39)).alloc (.cells #[.int .u8 0, .int .i64 0, .int .u64 0, .int .u64 0, .bool false] 39)).drew).cell? ⟨w.heap.size, 3, none⟩ = some (.int .u64 new) := (Row.drew ((HX.out.alloc _).alloc _)).cell 3
  have HK := Lib.hid (And.intro kp (And.intro kq (And.intro ka0 (And.intro ka1 (And.intro ka2 ka3)))))
  clear kp kq ka0 ka1 ka2 ka3
  have l1 : bp < w.heap.size + 1 := by omega
  have l2 : bp < w.heap.size + 1 + 1 := by omega
  have l3 : bq < w.heap.size + 1 := by omega
  have l4 : bq < w.heap.size + 1 + 1 := by omega
  have n13 : ¬ w.heap.size + 1 + 1 = w.heap.size := by omega
  have n1 : ¬ w.heap.size + 1 = bp := by omega
  have n2 : ¬ bp = w.heap.size + 1 := by omega
  have n3 : ¬ w.heap.size + 1 = bq := by omega
  have n4 : ¬ bq = w.heap.size + 1 := by omega
  have n5 : ¬ w.heap.size = bp := by omega
  have n6 : ¬ bp = w.heap.size := by omega
  have n7 : ¬ w.heap.size = bq := by omega
  have n8 : ¬ bq = w.heap.size := by omega
  have n9 : ¬ w.heap.size + 1 + 1 = bp := by omega
  have n10 : ¬ bp = w.heap.size + 1 + 1 := by omega
  have n11 : ¬ w.heap.size + 1 + 1 = bq := by omega
  have n12 : ¬ bq = w.heap.size + 1 + 1 := by omega
  have HDO := Lib.hid hdo
  have HL : Hid (bw < (w.alloc (.cells [.int .u8 kd, .int .i64 c, .int .u64 old, .int .u64 new].toArray 153)).heap.size) := Lib.hid (by simp; omega)
  have HS : Hid ((w.alloc (.cells [.int .u8 kd, .int .i64 c, .int .u64 old, .int .u64 new].toArray 153)).heap.size = w.heap.size + 1) := Lib.hid (by simp)
  clear h hp hdo
  go_enter Tryd.func62, Tryd.ntmps62
  go_upto_region 1 with fail
  go_cut [5] (fun s5 wx => MidAv (w.alloc (.cells [.int .u8 kd, .int .i64 c, .int .u64 old, .int .u64 new].toArray 153)) (w.heap.size + 1) bk bw ws' [.int .u8 kd, .int .i64 c, .int .u64 s, .int .u64 p, .bool ok] s5 wx)
  case first =>
    go_region_held3 (fun w' => w'.cell? ⟨bp, 0, none⟩ = some (.pointer (some ⟨bq, 0, none⟩)) ∧ w'.cell? ⟨bq, 0, none⟩ = some (.pointer (some ⟨bk, 0, none⟩)) ∧ w'.cell? ⟨w.heap.size, 0, none⟩ = some (.int .u8 kd) ∧ w'.cell? ⟨w.heap.size, 1, none⟩ = some (.int .i64 c) ∧ w'.cell? ⟨w.heap.size, 2, none⟩ = some (.int .u64 old) ∧ w'.cell? ⟨w.heap.size, 3, none⟩ = some (.int .u64 new))
      (first | (with_reducible exact ⟨q0, qu, a0, a1, a2, a3⟩) | (simp [World.cell?_alloc_some, World.cell?_setCell_far, n9, n11, n13, q0, qu, a0, a1, a2, a3]; done) | (with_reducible exact HK.out) | (simp [World.cell?_alloc_some, c0, k0]; done) | go_keep)
      (first
      | (go_at_call 74; (with_reducible refine (HDO.out _ (HA.out.alloc _).drew).mono ?_); rintro e w2 ⟨rfl, hW2, hP2⟩; have q0 : w2.cell? ⟨bp, 0, none⟩ = some (.pointer (some ⟨bq, 0, none⟩)) := (Row.part (Row.drew (HP.out.alloc _)) hP2 HNB.out).cell 0; have qu : w2.cell? ⟨bq, 0, none⟩ = some (.pointer (some ⟨bk, 0, none⟩)) := (Row.part (Row.drew (HH.out.alloc _)) hP2 HNT.out).cell 0; obtain ⟨a0, a1, a2, a3⟩ := (Row.part (Row.drew (HX.out.alloc _)) hP2 HNA.out).four; have HMA := Lib.hid (mida_a HS.out HA.out hW2 hP2 (did := [.int .u8 kd, .int .i64 c, .int .u64 s, .int .u64 p, .bool ok])); clear hW2 hP2)
      | (go_at_call 74; (with_reducible refine (HDO.out _ ((HA.out.alloc _).alloc _).drew).mono ?_); rintro e w2 ⟨rfl, hW2, hP2⟩; have q0 : w2.cell? ⟨bp, 0, none⟩ = some (.pointer (some ⟨bq, 0, none⟩)) := (Row.part (Row.drew ((HP.out.alloc _).alloc _)) hP2 HNB.out).cell 0; have qu : w2.cell? ⟨bq, 0, none⟩ = some (.pointer (some ⟨bk, 0, none⟩)) := (Row.part (Row.drew ((HH.out.alloc _).alloc _)) hP2 HNT.out).cell 0; obtain ⟨a0, a1, a2, a3⟩ := (Row.part (Row.drew ((HX.out.alloc _).alloc _)) hP2 HNA.out).four; have HMB := Lib.hid (mida_b HS.out HA.out hW2 hP2 (k := kd) (c := c) (saw := s) (put := p) (ok := ok)); have hr3 : Row w2 (w.heap.size + 1 + 1) 39 noDid := nodid_at HS.out rfl HL.out hP2; unfold noDid at hr3; obtain ⟨b0, b1, b2, b3, b4⟩ := hr3.five; have hf3 := hr3.free; have hlt3 := hr3.lt; clear hr3 hW2 hP2))
    all_goals
      go_wp2_with fail
      go_meet
      first | exact ⟨_, rfl, HMA.out⟩ | exact ⟨_, rfl, HMB.out⟩ | exact ⟨_, rfl, HMA.out.drew⟩ | exact ⟨_, rfl, HMB.out.drew⟩
  case rest =>
    obtain ⟨g, rfl, hM⟩ := hcut
    have HM := Lib.hid hM
    obtain ⟨b0, b1, b2, b3, b4⟩ := hM.did.five
    have blt := hM.did.lt
    have hres := hM.res
    unfold noDid at hres
    obtain ⟨d0, d1, d2, d3, d4⟩ := hres.five
    have df := hres.free
    have dlt := hres.lt
    have hg := hM.lo
    have e3 : ¬ g = w.heap.size + 1 := by omega
    have e4 : ¬ w.heap.size + 1 = g := by omega
    clear hM hres
    go_wp2
    refine bodyPost_ret (v := .agg #[.int .u8 kd, .int .i64 c, .int .u64 s, .int .u64 p, .bool ok]) (by simp [results, Tryd.results62, go_sem, d0, d1, d2, d3, d4]) rfl ⟨rfl, ?_⟩
    refine mida_act_end ((Part.refl [bw] w).alloc _) (Nat.le_of_eq HS.out) HM.out HA.out ?_
    repeat (first | (with_reducible exact Part.refl _ _) | refine Part.set ?_ (by simp) _)
end Go.Proofs.YteoekkhgpdhnhaaDoor
