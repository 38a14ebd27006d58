/- THE WALKS of package hist: an action, over what the function leaves that is handed what it did. -/
import Derived.Test.YtiifhkfkcljoiaaIf
import Derived.Deep.RegionLaw
import Derived.Deep.AppendLies
import Derived.Laws.MakeOwn
namespace Go.Proofs.Ytiifhkfkcljoiaa
open Go Go.RowKit
set_option maxRecDepth 100000
/-- a histogram: its scale, how many buckets, its words -/
structure HistM (w : World) (bh bk bw : Nat) (l h d : Int) (m : Nat) (ws : List Int) : Prop where
  head : Row w bh 82 [.int .i64 l, .int .i64 h, .int .i64 d, .int .i64 (m : Int), .pointer (some ⟨bk, 0, none⟩)]
  words : Words w bk bw ws
  len : ws.length = m + 4
  few : m ≤ 65532
def noDid : List Value := [.int .u8 0, .int .i64 0, .int .u64 0, .int .u64 0, .bool false]
/-- behind the action: what it did lies in a block g of its own -/
structure MidS (w : World) (bk bw bp : Nat) (ws : List Int) (l did : List Value) (g : Nat) (wx : World) : Prop where
  lo : w.heap.size < g
  words : Words wx bk bw ws
  pend : Row wx bp 85 l
  did : Row wx g 50 did
  res : Row wx w.heap.size 50 noDid
  part : Part [bw] w wx
def MidG (w : World) (bk bw bp : Nat) (ws : List Int) (l did : List Value) (v : Value) (wx : World) : Prop := ∃ g, v = .pointer (some ⟨g, 0, none⟩) ∧ MidS w bk bw bp ws l did g wx

section
variable {w w2 : World} {bk bw bp : Nat} {ws ws' : List Int} {l : List Value} {k c saw put : Int} {ok : Bool}
theorem mids_a (h : Words w bk bw ws) (hp : Row w bp 85 l) (hW : Words w2 bk bw ws') (hP : Part [bw] (w.alloc (.cells noDid.toArray 50)).drew w2) {did : List Value} :
    MidS w bk bw bp ws' l did w2.heap.size (w2.alloc (.cells did.toArray 50)) := by
  have hn : bp ∉ [bw] := by simpa using hp.ne h.row (by decide)
  have hb := h.row.lt
  have h0 : w.heap.size ∉ [bw] := by simp; omega
  have hr : Row w2 w.heap.size 50 noDid := Row.part (Row.new w _ _).drew hP h0
  exact ⟨hr.lt, hW.alloc _, (Row.part (hp.alloc _).drew hP hn).alloc _, Row.new _ _ _, hr.alloc _, (Part.trans (S' := [bw]) (((Part.refl [bw] w).alloc _).drew) hP (by simp)).alloc _⟩
theorem mids_b (h : Words w bk bw ws) (hp : Row w bp 85 l) (hW : Words w2 bk bw ws') (hP : Part [bw] ((w.alloc (.cells noDid.toArray 50)).alloc (.cells noDid.toArray 50)).drew w2) :
    MidS w bk bw bp ws' l [.int .u8 k, .int .i64 c, .int .u64 saw, .int .u64 put, .bool ok] (w.heap.size + 1)
      (((((w2.setCell ⟨w.heap.size + 1, 0, none⟩ (.int .u8 k)).setCell ⟨w.heap.size + 1, 1, none⟩ (.int .i64 c)).setCell ⟨w.heap.size + 1, 2, none⟩ (.int .u64 saw)).setCell ⟨w.heap.size + 1, 3, none⟩ (.int .u64 put)).setCell ⟨w.heap.size + 1, 4, none⟩ (.bool ok)) := by
  have hn : bp ∉ [bw] := by simpa using hp.ne h.row (by decide)
  have hb := h.row.lt
  have hb' := h.head.lt
  have hpl := hp.lt
  have h0 : w.heap.size ∉ [bw] := by simp; omega
  have h1 : w.heap.size + 1 ∉ [bw] := by simp; omega
  have hr : Row w2 w.heap.size 50 noDid := Row.part ((Row.new w _ _).alloc _).drew hP h0
  have hr1 : Row w2 (w.heap.size + 1) 50 noDid := Row.part (Row.new2 w _ _ _ rfl).drew hP h1
  have hp2 := Row.part ((hp.alloc _).alloc _).drew hP hn
  have hE : Part [w.heap.size + 1] w2 (((((w2.setCell ⟨w.heap.size + 1, 0, none⟩ (.int .u8 k)).setCell ⟨w.heap.size + 1, 1, none⟩ (.int .i64 c)).setCell ⟨w.heap.size + 1, 2, none⟩ (.int .u64 saw)).setCell ⟨w.heap.size + 1, 3, none⟩ (.int .u64 put)).setCell ⟨w.heap.size + 1, 4, none⟩ (.bool ok)) := by
    repeat (refine Part.set ?_ (by simp) _)
    exact Part.refl _ _
  refine ⟨by omega, hW.part hE (by simp; omega) (by simp; omega), hp2.part hE (by simp; omega), ?_, hr.part hE (by simp), ?_⟩
  · exact Row.of_eq (((((hr1.set 0 _).set 1 _).set 2 _).set 3 _).set 4 _) rfl
  · refine Part.trans (S' := [w.heap.size + 1]) (Part.trans (S' := [bw]) ((((Part.refl [bw] w).alloc _).alloc _).drew) hP (by simp)) hE (fun q hq hm => ?_)
    simp at hm
    omega
theorem MidS.drew {did : List Value} {g : Nat} {wx : World} (h : MidS w bk bw bp ws l did g wx) : MidS w bk bw bp ws l did g wx.drew := ⟨h.lo, h.words.drew, h.pend, h.did, h.res, h.part.drew⟩
end
/-- blocks of what actions did -/
def DidS (S : List Nat) (w : World) : Prop := ∀ q, q ∈ S → ∃ l, Row w q 50 l
theorem Row.stayD {S : List Nat} {w w1 : World} {b : Nat} {t : TypeId} {l : List Value} (h : Row w b t l) (hP : Part S w w1) (hS : DidS S w) (ht : t ≠ 50) : Row w1 b t l :=
  h.part hP fun hm => by
    obtain ⟨l', hr⟩ := hS b hm
    exact h.ne hr ht rfl
/-- what holds of a world's boxes stays where only such blocks turn -/
def Stays (G : World → Value → ShM → Prop) : Prop := ∀ w1 w2 S nx s, G w1 nx s → Part S w1 w2 → DidS S w1 → G w2 nx s
def ActTo (w : World) (bp bh bk bw : Nat) (l h d : Int) (m : Nat) (ws : List Int) (T : List Nat) (did : Array Value) (G : World → Value → ShM → Prop) (e : Ending) (w' : World) : Prop :=
  e = .returned (.agg did) ∧ ∃ nx' s', Row w' bp 85 (pendH bh nx' s') ∧ G w' nx' s' ∧ HistM w' bh bk bw l h d m ws ∧ Part (bp :: bw :: T) w w'
/-- what a step may turn besides: blocks that are no histogram's -/
def Else (T : List Nat) (w : World) (bh bk bw : Nat) : Prop := ∀ q, q ∈ T → q < w.heap.size ∧ q ≠ bh ∧ q ≠ bk ∧ q ≠ bw
theorem act_end {w wc w3 wf : World} {bp bh bk bw gb m : Nat} {l h d : Int} {ws ws' : List Int} {l0 l' did z : List Value} {T : List Nat} (hs : HistM w bh bk bw l h d m ws) (hl : ws'.length = ws.length) (hM : MidS w bk bw bp ws' l0 did gb wc) (hr : Row w3 bp 85 l') (hQ : Part (bp :: T) wc w3) (hT : Else T w bh bk bw) (hz : Row w3 w.heap.size 50 z) (hE : Part [w.heap.size] w3 wf) :
    Row wf bp 85 l' ∧ DidS [w.heap.size] w3 ∧ HistM wf bh bk bw l h d m ws' ∧ Part (bp :: bw :: T) w wf := by
  have e1 := hs.head.lt
  have e2 := hs.words.head.lt
  have e3 := hs.words.row.lt
  have hb : bh ∉ [bw] := by simpa using hs.head.ne hs.words.row (by decide)
  have hc := hs.head.part hM.part hb
  have hc3 := hc.part hQ (by
    simp only [List.mem_cons, not_or]
    exact ⟨hc.ne hM.pend (by decide), fun hm => (hT _ hm).2.1 rfl⟩)
  have hw3 := hM.words.part hQ (by
    simp only [List.mem_cons, not_or]
    exact ⟨hM.words.head.ne hM.pend (by decide), fun hm => (hT _ hm).2.2.1 rfl⟩) (by
    simp only [List.mem_cons, not_or]
    exact ⟨hM.words.row.ne hM.pend (by decide), fun hm => (hT _ hm).2.2.2 rfl⟩)
  refine ⟨hr.part hE (by simpa using hr.ne hz (by decide)), ?_, ⟨hc3.part hE (by simp; omega), hw3.part hE (by simp; omega) (by simp; omega), by rw [hl]; exact hs.len, hs.few⟩, ?_⟩
  · intro q hq
    simp at hq
    subst hq
    exact ⟨_, hz⟩
  · refine Part.trans (S' := [w.heap.size]) (Part.trans (S' := bp :: T) (hM.part.mono (S' := bp :: bw :: T) (fun q _ hm => by simp at hm; simp [hm])) hQ (fun q _ hm => by simp at hm ⊢; rcases hm with h | h <;> simp [h])) hE (fun q hq hm => ?_)
    simp at hm
    omega
theorem act1_load {w : World} {bp bh bk bw b1 b2 b3 b m : Nat} {nx : Value} {s : ShM} {l h d k c o n saw put : Int} {ws ws' : List Int} {ok : Bool} {T : List Nat} {G : World → Value → ShM → Prop} (hp : Row w bp 85 (pendH bh nx s)) (hs : HistM w bh bk bw l h d m ws) (hl : ws'.length = ws.length)
    (h1 : Row w b1 34 [.pointer (some ⟨bp, 0, none⟩)]) (h2 : Row w b2 129 [.int .u8 k, .int .i64 c, .int .u64 o, .int .u64 n]) (h3 : Row w b3 130 [.func (.func 86) #[] #[.pointer (some ⟨b, 0, none⟩)]])
    (hDo : ∀ w0, Words w0 bk bw ws → Calls Try.prog 93 #[.pointer (some ⟨bk, 0, none⟩), .agg #[.int .u8 k, .int .i64 c, .int .u64 o, .int .u64 n]] w0 (Acted w0 bk bw ws' (.tuple #[.agg #[.int .u8 k, .int .i64 c, .int .u64 saw, .int .u64 put, .bool ok], .int .i64 0])))
    (hT : ∀ wc, Part [bw] w wc → Row wc bp 85 (pendH bh nx s) → Row wc bh 82 [.int .i64 l, .int .i64 h, .int .i64 d, .int .i64 (m : Int), .pointer (some ⟨bk, 0, none⟩)] → Calls Try.prog 86 #[.agg #[.int .u8 k, .int .i64 c, .int .u64 saw, .int .u64 put, .bool ok], .pointer (some ⟨b, 0, none⟩)] wc (TellH wc bp bh T G)) (hT0 : Else T w bh bk bw)
    (hG : Stays G) :
    Calls Try.prog 92 #[.pointer (some ⟨b1, 0, none⟩), .pointer (some ⟨b2, 0, none⟩), .pointer (some ⟨b3, 0, none⟩)] w (ActTo w bp bh bk bw l h d m ws' T #[.int .u8 k, .int .i64 c, .int .u64 saw, .int .u64 put, .bool ok] G) := by
  have c1 : w.cell? ⟨b1, 0, none⟩ = some (.pointer (some ⟨bp, 0, none⟩)) := h1.cell 0
  obtain ⟨a0, a1, a2, a3⟩ := h2.four
  have c3 : w.cell? ⟨b3, 0, none⟩ = some (.func (.func 86) #[] #[.pointer (some ⟨b, 0, none⟩)]) := h3.cell 0
  have p0 : w.cell? ⟨bp, 0, none⟩ = some (.pointer (some ⟨bh, 0, none⟩)) := hp.cell 0
  have s0 : w.cell? ⟨bh, 4, none⟩ = some (.pointer (some ⟨bk, 0, none⟩)) := hs.head.cell 4
  have l1 := h1.lt
  have l2 := h2.lt
  have l3 := h3.lt
  have lp := hp.lt
  have ls := hs.head.lt
  have lw := hs.words.row.lt
  have n1 : Hid (b1 ∉ [bw]) := Lib.hid (by simpa using h1.ne hs.words.row (by decide))
  have n2 : Hid (b2 ∉ [bw]) := Lib.hid (by simpa using h2.ne hs.words.row (by decide))
  have n3 : Hid (b3 ∉ [bw]) := Lib.hid (by simpa using h3.ne hs.words.row (by decide))
  have np : Hid (bp ∉ [bw]) := Lib.hid (by simpa using hp.ne hs.words.row (by decide))
  have ns : Hid (bh ∉ [bw]) := Lib.hid (by simpa using hs.head.ne hs.words.row (by decide))
  have nd1 : Hid (w.heap.size + 1 ∉ [bw]) := Lib.hid (by simp; omega)
  have e1 : ¬ w.heap.size + 1 = bp := by omega
  have e2 : ¬ bp = w.heap.size + 1 := by omega
  have e3 : ¬ w.heap.size + 1 = bh := by omega
  have e4 : ¬ bh = w.heap.size + 1 := by omega
  have e5 : ¬ w.heap.size + 1 = b1 := by omega
  have e6 : ¬ b1 = w.heap.size + 1 := by omega
  have e7 : ¬ w.heap.size + 1 = b2 := by omega
  have e8 : ¬ b2 = w.heap.size + 1 := by omega
  have H1 := Lib.hid h1
  have H2 := Lib.hid h2
  have H3 := Lib.hid h3
  have HP := Lib.hid hp
  have HS := Lib.hid hs
  have HDO := Lib.hid hDo
  have HT := Lib.hid hT
  have HT0 := Lib.hid hT0
  have HL := Lib.hid hl
  have HGS := Lib.hid hG
  clear h1 h2 h3 hp hs hDo hT hG hT0 hl
  go_enter Try.func92, Try.ntmps92
  go_upto_region 1 with fail
  go_cut [4] (fun s4 wx => MidG w bk bw bp ws' (pendH bh nx s) [.int .u8 k, .int .i64 c, .int .u64 saw, .int .u64 put, .bool ok] s4 wx)
  case first =>
    go_region_held3 (fun w' => w'.cell? ⟨b1, 0, none⟩ = some (.pointer (some ⟨bp, 0, none⟩)) ∧ w'.cell? ⟨bp, 0, none⟩ = some (.pointer (some ⟨bh, 0, none⟩)) ∧ w'.cell? ⟨bh, 4, none⟩ = some (.pointer (some ⟨bk, 0, none⟩)) ∧ w'.cell? ⟨b2, 0, none⟩ = some (.int .u8 k) ∧ w'.cell? ⟨b2, 1, none⟩ = some (.int .i64 c) ∧ w'.cell? ⟨b2, 2, none⟩ = some (.int .u64 o) ∧ w'.cell? ⟨b2, 3, none⟩ = some (.int .u64 n))
      (first | (with_reducible exact ⟨q0, q1, q2, q3, q4, q5, q6⟩) | go_keep)
      (first
      | (go_at_call 93; (with_reducible refine (HDO.out _ (HS.out.words.alloc _).drew).mono ?_); rintro e w2 ⟨rfl, hW2, hP2⟩; have q0 := (Row.part (Row.drew (H1.out.alloc _)) hP2 n1.out).cell 0; have hpr := Row.part (Row.drew (HP.out.alloc _)) hP2 np.out; have q1 : w2.cell? ⟨bp, 0, none⟩ = some (.pointer (some ⟨bh, 0, none⟩)) := hpr.cell 0; have q2 := (Row.part (Row.drew (HS.out.head.alloc _)) hP2 ns.out).cell 4; obtain ⟨q3, q4, q5, q6⟩ := (Row.part (Row.drew (H2.out.alloc _)) hP2 n2.out).four; have ql1 := (Row.part (Row.drew (H1.out.alloc _)) hP2 n1.out).lt; have ql2 := (Row.part (Row.drew (H2.out.alloc _)) hP2 n2.out).lt; have qlp := hpr.lt; have qls := (Row.part (Row.drew (HS.out.head.alloc _)) hP2 ns.out).lt; have HMA := Lib.hid (mids_a HS.out.words HP.out hW2 hP2 (did := [.int .u8 k, .int .i64 c, .int .u64 saw, .int .u64 put, .bool ok])); clear hpr hW2 hP2)
      | (go_at_call 93; (with_reducible refine (HDO.out _ ((HS.out.words.alloc _).alloc _).drew).mono ?_); rintro e w2 ⟨rfl, hW2, hP2⟩; have q0 := (Row.part (Row.drew ((H1.out.alloc _).alloc _)) hP2 n1.out).cell 0; have hpr := Row.part (Row.drew ((HP.out.alloc _).alloc _)) hP2 np.out; have q1 : w2.cell? ⟨bp, 0, none⟩ = some (.pointer (some ⟨bh, 0, none⟩)) := hpr.cell 0; have q2 := (Row.part (Row.drew ((HS.out.head.alloc _).alloc _)) hP2 ns.out).cell 4; obtain ⟨q3, q4, q5, q6⟩ := (Row.part (Row.drew ((H2.out.alloc _).alloc _)) hP2 n2.out).four; have HMB := Lib.hid (mids_b HS.out.words HP.out hW2 hP2 (k := k) (c := c) (saw := saw) (put := put) (ok := ok)); have hr3 : Row w2 (w.heap.size + 1) 50 noDid := Row.part (Row.new2 w _ _ _ rfl).drew hP2 nd1.out; unfold noDid at hr3; obtain ⟨d0, d1, d2, d3, d4⟩ := hr3.five; have hf3 := hr3.free; have hlt3 := hr3.lt; clear hpr hr3 hW2 hP2))
    all_goals
      go_wp2_with fail
      go_meet
      first | exact ⟨_, rfl, HMA.out⟩ | exact ⟨_, rfl, HMB.out⟩ | exact ⟨_, rfl, HMA.out.drew⟩ | exact ⟨_, rfl, HMB.out.drew⟩
  case rest =>
    obtain ⟨gb, rfl, hM⟩ := hcut
    have h3' := H3.out.part hM.part n3.out
    have HTT := Lib.hid (HT.out wc hM.part hM.pend (HS.out.head.part hM.part ns.out))
    have c3' : wc.cell? ⟨b3, 0, none⟩ = some (.func (.func 86) #[] #[.pointer (some ⟨b, 0, none⟩)]) := h3'.cell 0
    obtain ⟨t0, t1, t2, t3, t4⟩ := hM.did.five
    have hres := hM.res
    have hgp : gb ∉ bp :: T := by
      simp only [List.mem_cons, not_or]
      exact ⟨hM.did.ne hM.pend (by decide), fun hm => by have h1 := (HT0.out _ hm).1; have h2 := hM.lo; omega⟩
    have hrp : w.heap.size ∉ bp :: T := by
      simp only [List.mem_cons, not_or]
      exact ⟨hM.res.ne hM.pend (by decide), fun hm => Nat.lt_irrefl _ (HT0.out _ hm).1⟩
    have HM := Lib.hid hM
    have HGP := Lib.hid hgp
    have HRP := Lib.hid hrp
    have f1 : ¬ gb = w.heap.size := by have := hM.lo; omega
    have f2 : ¬ w.heap.size = gb := by have := hM.lo; omega
    clear h3' hM hres hgp hrp c1 a0 a1 a2 a3 c3 p0 s0
    go_wp2_with (go_at_call 86; (with_reducible refine HTT.out.mono ?_); rintro e w3 ⟨rfl, nx', s', hr, ha, hP⟩; have hd := HM.out.did.part hP HGP.out; have hz := HM.out.res.part hP HRP.out; unfold noDid at hz; obtain ⟨z0, z1, z2, z3, z4⟩ := hz.five; have zf := hz.free; have zl := hz.lt; obtain ⟨t0, t1, t2, t3, t4⟩ := hd.five; have tl := hd.lt; have HZ := Lib.hid hz; have HR := Lib.hid hr; have HA := Lib.hid ha; have HQ := Lib.hid hP; clear hd hz hr ha hP)
    refine bodyPost_ret (v := .agg #[.int .u8 k, .int .i64 c, .int .u64 saw, .int .u64 put, .bool ok]) (by simp [results, Try.results92, go_sem, z0, z1, z2, z3, z4]) rfl ⟨rfl, nx', s', ?_⟩
    obtain ⟨g1, g2, g3, g4⟩ := act_end HS.out HL.out HM.out HR.out HQ.out HT0.out HZ.out (Part.set (Part.set (Part.set (Part.set (Part.set (Part.refl [w.heap.size] w3) (p := ⟨w.heap.size, 0, none⟩) (by simp) (.int .u8 k)) (p := ⟨w.heap.size, 1, none⟩) (by simp) (.int .i64 c)) (p := ⟨w.heap.size, 2, none⟩) (by simp) (.int .u64 saw)) (p := ⟨w.heap.size, 3, none⟩) (by simp) (.int .u64 put)) (p := ⟨w.heap.size, 4, none⟩) (by simp) (.bool ok))
    refine ⟨g1, HGS.out _ _ [w.heap.size] _ _ HA.out ?_ g2, g3, g4⟩
    repeat (refine Part.set ?_ (by simp) _)
    exact Part.refl _ _
theorem act1_add {w : World} {bp bh bk bw b1 b2 b3 b m : Nat} {nx : Value} {s : ShM} {l h d k c o n saw put : Int} {ws ws' : List Int} {ok : Bool} {T : List Nat} {G : World → Value → ShM → Prop} (hp : Row w bp 85 (pendH bh nx s)) (hs : HistM w bh bk bw l h d m ws) (hl : ws'.length = ws.length)
    (h1 : Row w b1 34 [.pointer (some ⟨bp, 0, none⟩)]) (h2 : Row w b2 129 [.int .u8 k, .int .i64 c, .int .u64 o, .int .u64 n]) (h3 : Row w b3 130 [.func (.func 82) #[] #[.pointer (some ⟨b, 0, none⟩)]])
    (hDo : ∀ w0, Words w0 bk bw ws → Calls Try.prog 93 #[.pointer (some ⟨bk, 0, none⟩), .agg #[.int .u8 k, .int .i64 c, .int .u64 o, .int .u64 n]] w0 (Acted w0 bk bw ws' (.tuple #[.agg #[.int .u8 k, .int .i64 c, .int .u64 saw, .int .u64 put, .bool ok], .int .i64 0])))
    (hT : ∀ wc, Part [bw] w wc → Row wc bp 85 (pendH bh nx s) → Row wc bh 82 [.int .i64 l, .int .i64 h, .int .i64 d, .int .i64 (m : Int), .pointer (some ⟨bk, 0, none⟩)] → Calls Try.prog 82 #[.agg #[.int .u8 k, .int .i64 c, .int .u64 saw, .int .u64 put, .bool ok], .pointer (some ⟨b, 0, none⟩)] wc (TellH wc bp bh T G)) (hT0 : Else T w bh bk bw)
    (hG : Stays G) :
    Calls Try.prog 92 #[.pointer (some ⟨b1, 0, none⟩), .pointer (some ⟨b2, 0, none⟩), .pointer (some ⟨b3, 0, none⟩)] w (ActTo w bp bh bk bw l h d m ws' T #[.int .u8 k, .int .i64 c, .int .u64 saw, .int .u64 put, .bool ok] G) := by
  have c1 : w.cell? ⟨b1, 0, none⟩ = some (.pointer (some ⟨bp, 0, none⟩)) := h1.cell 0
  obtain ⟨a0, a1, a2, a3⟩ := h2.four
  have c3 : w.cell? ⟨b3, 0, none⟩ = some (.func (.func 82) #[] #[.pointer (some ⟨b, 0, none⟩)]) := h3.cell 0
  have p0 : w.cell? ⟨bp, 0, none⟩ = some (.pointer (some ⟨bh, 0, none⟩)) := hp.cell 0
  have s0 : w.cell? ⟨bh, 4, none⟩ = some (.pointer (some ⟨bk, 0, none⟩)) := hs.head.cell 4
  have l1 := h1.lt
  have l2 := h2.lt
  have l3 := h3.lt
  have lp := hp.lt
  have ls := hs.head.lt
  have lw := hs.words.row.lt
  have n1 : Hid (b1 ∉ [bw]) := Lib.hid (by simpa using h1.ne hs.words.row (by decide))
  have n2 : Hid (b2 ∉ [bw]) := Lib.hid (by simpa using h2.ne hs.words.row (by decide))
  have n3 : Hid (b3 ∉ [bw]) := Lib.hid (by simpa using h3.ne hs.words.row (by decide))
  have np : Hid (bp ∉ [bw]) := Lib.hid (by simpa using hp.ne hs.words.row (by decide))
  have ns : Hid (bh ∉ [bw]) := Lib.hid (by simpa using hs.head.ne hs.words.row (by decide))
  have nd1 : Hid (w.heap.size + 1 ∉ [bw]) := Lib.hid (by simp; omega)
  have e1 : ¬ w.heap.size + 1 = bp := by omega
  have e2 : ¬ bp = w.heap.size + 1 := by omega
  have e3 : ¬ w.heap.size + 1 = bh := by omega
  have e4 : ¬ bh = w.heap.size + 1 := by omega
  have e5 : ¬ w.heap.size + 1 = b1 := by omega
  have e6 : ¬ b1 = w.heap.size + 1 := by omega
  have e7 : ¬ w.heap.size + 1 = b2 := by omega
  have e8 : ¬ b2 = w.heap.size + 1 := by omega
  have H1 := Lib.hid h1
  have H2 := Lib.hid h2
  have H3 := Lib.hid h3
  have HP := Lib.hid hp
  have HS := Lib.hid hs
  have HDO := Lib.hid hDo
  have HT := Lib.hid hT
  have HT0 := Lib.hid hT0
  have HL := Lib.hid hl
  have HGS := Lib.hid hG
  clear h1 h2 h3 hp hs hDo hT hG hT0 hl
  go_enter Try.func92, Try.ntmps92
  go_upto_region 1 with fail
  go_cut [4] (fun s4 wx => MidG w bk bw bp ws' (pendH bh nx s) [.int .u8 k, .int .i64 c, .int .u64 saw, .int .u64 put, .bool ok] s4 wx)
  case first =>
    go_region_held3 (fun w' => w'.cell? ⟨b1, 0, none⟩ = some (.pointer (some ⟨bp, 0, none⟩)) ∧ w'.cell? ⟨bp, 0, none⟩ = some (.pointer (some ⟨bh, 0, none⟩)) ∧ w'.cell? ⟨bh, 4, none⟩ = some (.pointer (some ⟨bk, 0, none⟩)) ∧ w'.cell? ⟨b2, 0, none⟩ = some (.int .u8 k) ∧ w'.cell? ⟨b2, 1, none⟩ = some (.int .i64 c) ∧ w'.cell? ⟨b2, 2, none⟩ = some (.int .u64 o) ∧ w'.cell? ⟨b2, 3, none⟩ = some (.int .u64 n))
      (first | (with_reducible exact ⟨q0, q1, q2, q3, q4, q5, q6⟩) | go_keep)
      (first
      | (go_at_call 93; (with_reducible refine (HDO.out _ (HS.out.words.alloc _).drew).mono ?_); rintro e w2 ⟨rfl, hW2, hP2⟩; have q0 := (Row.part (Row.drew (H1.out.alloc _)) hP2 n1.out).cell 0; have hpr := Row.part (Row.drew (HP.out.alloc _)) hP2 np.out; have q1 : w2.cell? ⟨bp, 0, none⟩ = some (.pointer (some ⟨bh, 0, none⟩)) := hpr.cell 0; have q2 := (Row.part (Row.drew (HS.out.head.alloc _)) hP2 ns.out).cell 4; obtain ⟨q3, q4, q5, q6⟩ := (Row.part (Row.drew (H2.out.alloc _)) hP2 n2.out).four; have ql1 := (Row.part (Row.drew (H1.out.alloc _)) hP2 n1.out).lt; have ql2 := (Row.part (Row.drew (H2.out.alloc _)) hP2 n2.out).lt; have qlp := hpr.lt; have qls := (Row.part (Row.drew (HS.out.head.alloc _)) hP2 ns.out).lt; have HMA := Lib.hid (mids_a HS.out.words HP.out hW2 hP2 (did := [.int .u8 k, .int .i64 c, .int .u64 saw, .int .u64 put, .bool ok])); clear hpr hW2 hP2)
      | (go_at_call 93; (with_reducible refine (HDO.out _ ((HS.out.words.alloc _).alloc _).drew).mono ?_); rintro e w2 ⟨rfl, hW2, hP2⟩; have q0 := (Row.part (Row.drew ((H1.out.alloc _).alloc _)) hP2 n1.out).cell 0; have hpr := Row.part (Row.drew ((HP.out.alloc _).alloc _)) hP2 np.out; have q1 : w2.cell? ⟨bp, 0, none⟩ = some (.pointer (some ⟨bh, 0, none⟩)) := hpr.cell 0; have q2 := (Row.part (Row.drew ((HS.out.head.alloc _).alloc _)) hP2 ns.out).cell 4; obtain ⟨q3, q4, q5, q6⟩ := (Row.part (Row.drew ((H2.out.alloc _).alloc _)) hP2 n2.out).four; have HMB := Lib.hid (mids_b HS.out.words HP.out hW2 hP2 (k := k) (c := c) (saw := saw) (put := put) (ok := ok)); have hr3 : Row w2 (w.heap.size + 1) 50 noDid := Row.part (Row.new2 w _ _ _ rfl).drew hP2 nd1.out; unfold noDid at hr3; obtain ⟨d0, d1, d2, d3, d4⟩ := hr3.five; have hf3 := hr3.free; have hlt3 := hr3.lt; clear hpr hr3 hW2 hP2))
    all_goals
      go_wp2_with fail
      go_meet
      first | exact ⟨_, rfl, HMA.out⟩ | exact ⟨_, rfl, HMB.out⟩ | exact ⟨_, rfl, HMA.out.drew⟩ | exact ⟨_, rfl, HMB.out.drew⟩
  case rest =>
    obtain ⟨gb, rfl, hM⟩ := hcut
    have h3' := H3.out.part hM.part n3.out
    have HTT := Lib.hid (HT.out wc hM.part hM.pend (HS.out.head.part hM.part ns.out))
    have c3' : wc.cell? ⟨b3, 0, none⟩ = some (.func (.func 82) #[] #[.pointer (some ⟨b, 0, none⟩)]) := h3'.cell 0
    obtain ⟨t0, t1, t2, t3, t4⟩ := hM.did.five
    have hres := hM.res
    have hgp : gb ∉ bp :: T := by
      simp only [List.mem_cons, not_or]
      exact ⟨hM.did.ne hM.pend (by decide), fun hm => by have h1 := (HT0.out _ hm).1; have h2 := hM.lo; omega⟩
    have hrp : w.heap.size ∉ bp :: T := by
      simp only [List.mem_cons, not_or]
      exact ⟨hM.res.ne hM.pend (by decide), fun hm => Nat.lt_irrefl _ (HT0.out _ hm).1⟩
    have HM := Lib.hid hM
    have HGP := Lib.hid hgp
    have HRP := Lib.hid hrp
    have f1 : ¬ gb = w.heap.size := by have := hM.lo; omega
    have f2 : ¬ w.heap.size = gb := by have := hM.lo; omega
    clear h3' hM hres hgp hrp c1 a0 a1 a2 a3 c3 p0 s0
    go_wp2_with (go_at_call 82; (with_reducible refine HTT.out.mono ?_); rintro e w3 ⟨rfl, nx', s', hr, ha, hP⟩; have hd := HM.out.did.part hP HGP.out; have hz := HM.out.res.part hP HRP.out; unfold noDid at hz; obtain ⟨z0, z1, z2, z3, z4⟩ := hz.five; have zf := hz.free; have zl := hz.lt; obtain ⟨t0, t1, t2, t3, t4⟩ := hd.five; have tl := hd.lt; have HZ := Lib.hid hz; have HR := Lib.hid hr; have HA := Lib.hid ha; have HQ := Lib.hid hP; clear hd hz hr ha hP)
    refine bodyPost_ret (v := .agg #[.int .u8 k, .int .i64 c, .int .u64 saw, .int .u64 put, .bool ok]) (by simp [results, Try.results92, go_sem, z0, z1, z2, z3, z4]) rfl ⟨rfl, nx', s', ?_⟩
    obtain ⟨g1, g2, g3, g4⟩ := act_end HS.out HL.out HM.out HR.out HQ.out HT0.out HZ.out (Part.set (Part.set (Part.set (Part.set (Part.set (Part.refl [w.heap.size] w3) (p := ⟨w.heap.size, 0, none⟩) (by simp) (.int .u8 k)) (p := ⟨w.heap.size, 1, none⟩) (by simp) (.int .i64 c)) (p := ⟨w.heap.size, 2, none⟩) (by simp) (.int .u64 saw)) (p := ⟨w.heap.size, 3, none⟩) (by simp) (.int .u64 put)) (p := ⟨w.heap.size, 4, none⟩) (by simp) (.bool ok))
    refine ⟨g1, HGS.out _ _ [w.heap.size] _ _ HA.out ?_ g2, g3, g4⟩
    repeat (refine Part.set ?_ (by simp) _)
    exact Part.refl _ _
theorem act1_keep {w : World} {bp bh bk bw b1 b2 b3 bt bq bc bx bb m : Nat} {nx : Value} {s : ShM} {l h d k c o n saw put : Int} {ws ws' : List Int} {ok : Bool} {T : List Nat} {G : World → Value → ShM → Prop} (hp : Row w bp 85 (pendH bh nx s)) (hs : HistM w bh bk bw l h d m ws) (hl : ws'.length = ws.length)
    (h1 : Row w b1 34 [.pointer (some ⟨bp, 0, none⟩)]) (h2 : Row w b2 129 [.int .u8 k, .int .i64 c, .int .u64 o, .int .u64 n]) (h3 : Row w b3 130 [.func (.func 95) #[] #[.pointer (some ⟨bt, 0, none⟩), .pointer (some ⟨bq, 0, none⟩), .pointer (some ⟨bc, 0, none⟩), .pointer (some ⟨bx, 0, none⟩), .pointer (some ⟨bb, 0, none⟩)]])
    (hDo : ∀ w0, Words w0 bk bw ws → Calls Try.prog 93 #[.pointer (some ⟨bk, 0, none⟩), .agg #[.int .u8 k, .int .i64 c, .int .u64 o, .int .u64 n]] w0 (Acted w0 bk bw ws' (.tuple #[.agg #[.int .u8 k, .int .i64 c, .int .u64 saw, .int .u64 put, .bool ok], .int .i64 0])))
    (hT : ∀ wc, Part [bw] w wc → Row wc bp 85 (pendH bh nx s) → Row wc bh 82 [.int .i64 l, .int .i64 h, .int .i64 d, .int .i64 (m : Int), .pointer (some ⟨bk, 0, none⟩)] → Calls Try.prog 95 #[.agg #[.int .u8 k, .int .i64 c, .int .u64 saw, .int .u64 put, .bool ok], .pointer (some ⟨bt, 0, none⟩), .pointer (some ⟨bq, 0, none⟩), .pointer (some ⟨bc, 0, none⟩), .pointer (some ⟨bx, 0, none⟩), .pointer (some ⟨bb, 0, none⟩)] wc (TellH wc bp bh T G)) (hT0 : Else T w bh bk bw)
    (hG : Stays G) :
    Calls Try.prog 92 #[.pointer (some ⟨b1, 0, none⟩), .pointer (some ⟨b2, 0, none⟩), .pointer (some ⟨b3, 0, none⟩)] w (ActTo w bp bh bk bw l h d m ws' T #[.int .u8 k, .int .i64 c, .int .u64 saw, .int .u64 put, .bool ok] G) := by
  have c1 : w.cell? ⟨b1, 0, none⟩ = some (.pointer (some ⟨bp, 0, none⟩)) := h1.cell 0
  obtain ⟨a0, a1, a2, a3⟩ := h2.four
  have c3 : w.cell? ⟨b3, 0, none⟩ = some (.func (.func 95) #[] #[.pointer (some ⟨bt, 0, none⟩), .pointer (some ⟨bq, 0, none⟩), .pointer (some ⟨bc, 0, none⟩), .pointer (some ⟨bx, 0, none⟩), .pointer (some ⟨bb, 0, none⟩)]) := h3.cell 0
  have p0 : w.cell? ⟨bp, 0, none⟩ = some (.pointer (some ⟨bh, 0, none⟩)) := hp.cell 0
  have s0 : w.cell? ⟨bh, 4, none⟩ = some (.pointer (some ⟨bk, 0, none⟩)) := hs.head.cell 4
  have l1 := h1.lt
  have l2 := h2.lt
  have l3 := h3.lt
  have lp := hp.lt
  have ls := hs.head.lt
  have lw := hs.words.row.lt
  have n1 : Hid (b1 ∉ [bw]) := Lib.hid (by simpa using h1.ne hs.words.row (by decide))
  have n2 : Hid (b2 ∉ [bw]) := Lib.hid (by simpa using h2.ne hs.words.row (by decide))
  have n3 : Hid (b3 ∉ [bw]) := Lib.hid (by simpa using h3.ne hs.words.row (by decide))
  have np : Hid (bp ∉ [bw]) := Lib.hid (by simpa using hp.ne hs.words.row (by decide))
  have ns : Hid (bh ∉ [bw]) := Lib.hid (by simpa using hs.head.ne hs.words.row (by decide))
  have nd1 : Hid (w.heap.size + 1 ∉ [bw]) := Lib.hid (by simp; omega)
  have e1 : ¬ w.heap.size + 1 = bp := by omega
  have e2 : ¬ bp = w.heap.size + 1 := by omega
  have e3 : ¬ w.heap.size + 1 = bh := by omega
  have e4 : ¬ bh = w.heap.size + 1 := by omega
  have e5 : ¬ w.heap.size + 1 = b1 := by omega
  have e6 : ¬ b1 = w.heap.size + 1 := by omega
  have e7 : ¬ w.heap.size + 1 = b2 := by omega
  have e8 : ¬ b2 = w.heap.size + 1 := by omega
  have H1 := Lib.hid h1
  have H2 := Lib.hid h2
  have H3 := Lib.hid h3
  have HP := Lib.hid hp
  have HS := Lib.hid hs
  have HDO := Lib.hid hDo
  have HT := Lib.hid hT
  have HT0 := Lib.hid hT0
  have HL := Lib.hid hl
  have HGS := Lib.hid hG
  clear h1 h2 h3 hp hs hDo hT hG hT0 hl
  go_enter Try.func92, Try.ntmps92
  go_upto_region 1 with fail
  go_cut [4] (fun s4 wx => MidG w bk bw bp ws' (pendH bh nx s) [.int .u8 k, .int .i64 c, .int .u64 saw, .int .u64 put, .bool ok] s4 wx)
  case first =>
    go_region_held3 (fun w' => w'.cell? ⟨b1, 0, none⟩ = some (.pointer (some ⟨bp, 0, none⟩)) ∧ w'.cell? ⟨bp, 0, none⟩ = some (.pointer (some ⟨bh, 0, none⟩)) ∧ w'.cell? ⟨bh, 4, none⟩ = some (.pointer (some ⟨bk, 0, none⟩)) ∧ w'.cell? ⟨b2, 0, none⟩ = some (.int .u8 k) ∧ w'.cell? ⟨b2, 1, none⟩ = some (.int .i64 c) ∧ w'.cell? ⟨b2, 2, none⟩ = some (.int .u64 o) ∧ w'.cell? ⟨b2, 3, none⟩ = some (.int .u64 n))
      (first | (with_reducible exact ⟨q0, q1, q2, q3, q4, q5, q6⟩) | go_keep)
      (first
      | (go_at_call 93; (with_reducible refine (HDO.out _ (HS.out.words.alloc _).drew).mono ?_); rintro e w2 ⟨rfl, hW2, hP2⟩; have q0 := (Row.part (Row.drew (H1.out.alloc _)) hP2 n1.out).cell 0; have hpr := Row.part (Row.drew (HP.out.alloc _)) hP2 np.out; have q1 : w2.cell? ⟨bp, 0, none⟩ = some (.pointer (some ⟨bh, 0, none⟩)) := hpr.cell 0; have q2 := (Row.part (Row.drew (HS.out.head.alloc _)) hP2 ns.out).cell 4; obtain ⟨q3, q4, q5, q6⟩ := (Row.part (Row.drew (H2.out.alloc _)) hP2 n2.out).four; have ql1 := (Row.part (Row.drew (H1.out.alloc _)) hP2 n1.out).lt; have ql2 := (Row.part (Row.drew (H2.out.alloc _)) hP2 n2.out).lt; have qlp := hpr.lt; have qls := (Row.part (Row.drew (HS.out.head.alloc _)) hP2 ns.out).lt; have HMA := Lib.hid (mids_a HS.out.words HP.out hW2 hP2 (did := [.int .u8 k, .int .i64 c, .int .u64 saw, .int .u64 put, .bool ok])); clear hpr hW2 hP2)
      | (go_at_call 93; (with_reducible refine (HDO.out _ ((HS.out.words.alloc _).alloc _).drew).mono ?_); rintro e w2 ⟨rfl, hW2, hP2⟩; have q0 := (Row.part (Row.drew ((H1.out.alloc _).alloc _)) hP2 n1.out).cell 0; have hpr := Row.part (Row.drew ((HP.out.alloc _).alloc _)) hP2 np.out; have q1 : w2.cell? ⟨bp, 0, none⟩ = some (.pointer (some ⟨bh, 0, none⟩)) := hpr.cell 0; have q2 := (Row.part (Row.drew ((HS.out.head.alloc _).alloc _)) hP2 ns.out).cell 4; obtain ⟨q3, q4, q5, q6⟩ := (Row.part (Row.drew ((H2.out.alloc _).alloc _)) hP2 n2.out).four; have HMB := Lib.hid (mids_b HS.out.words HP.out hW2 hP2 (k := k) (c := c) (saw := saw) (put := put) (ok := ok)); have hr3 : Row w2 (w.heap.size + 1) 50 noDid := Row.part (Row.new2 w _ _ _ rfl).drew hP2 nd1.out; unfold noDid at hr3; obtain ⟨d0, d1, d2, d3, d4⟩ := hr3.five; have hf3 := hr3.free; have hlt3 := hr3.lt; clear hpr hr3 hW2 hP2))
    all_goals
      go_wp2_with fail
      go_meet
      first | exact ⟨_, rfl, HMA.out⟩ | exact ⟨_, rfl, HMB.out⟩ | exact ⟨_, rfl, HMA.out.drew⟩ | exact ⟨_, rfl, HMB.out.drew⟩
  case rest =>
    obtain ⟨gb, rfl, hM⟩ := hcut
    have h3' := H3.out.part hM.part n3.out
    have HTT := Lib.hid (HT.out wc hM.part hM.pend (HS.out.head.part hM.part ns.out))
    have c3' : wc.cell? ⟨b3, 0, none⟩ = some (.func (.func 95) #[] #[.pointer (some ⟨bt, 0, none⟩), .pointer (some ⟨bq, 0, none⟩), .pointer (some ⟨bc, 0, none⟩), .pointer (some ⟨bx, 0, none⟩), .pointer (some ⟨bb, 0, none⟩)]) := h3'.cell 0
    obtain ⟨t0, t1, t2, t3, t4⟩ := hM.did.five
    have hres := hM.res
    have hgp : gb ∉ bp :: T := by
      simp only [List.mem_cons, not_or]
      exact ⟨hM.did.ne hM.pend (by decide), fun hm => by have h1 := (HT0.out _ hm).1; have h2 := hM.lo; omega⟩
    have hrp : w.heap.size ∉ bp :: T := by
      simp only [List.mem_cons, not_or]
      exact ⟨hM.res.ne hM.pend (by decide), fun hm => Nat.lt_irrefl _ (HT0.out _ hm).1⟩
    have HM := Lib.hid hM
    have HGP := Lib.hid hgp
    have HRP := Lib.hid hrp
    have f1 : ¬ gb = w.heap.size := by have := hM.lo; omega
    have f2 : ¬ w.heap.size = gb := by have := hM.lo; omega
    clear h3' hM hres hgp hrp c1 a0 a1 a2 a3 c3 p0 s0
    go_wp2_with (go_at_call 95; (with_reducible refine HTT.out.mono ?_); rintro e w3 ⟨rfl, nx', s', hr, ha, hP⟩; have hd := HM.out.did.part hP HGP.out; have hz := HM.out.res.part hP HRP.out; unfold noDid at hz; obtain ⟨z0, z1, z2, z3, z4⟩ := hz.five; have zf := hz.free; have zl := hz.lt; obtain ⟨t0, t1, t2, t3, t4⟩ := hd.five; have tl := hd.lt; have HZ := Lib.hid hz; have HR := Lib.hid hr; have HA := Lib.hid ha; have HQ := Lib.hid hP; clear hd hz hr ha hP)
    refine bodyPost_ret (v := .agg #[.int .u8 k, .int .i64 c, .int .u64 saw, .int .u64 put, .bool ok]) (by simp [results, Try.results92, go_sem, z0, z1, z2, z3, z4]) rfl ⟨rfl, nx', s', ?_⟩
    obtain ⟨g1, g2, g3, g4⟩ := act_end HS.out HL.out HM.out HR.out HQ.out HT0.out HZ.out (Part.set (Part.set (Part.set (Part.set (Part.set (Part.refl [w.heap.size] w3) (p := ⟨w.heap.size, 0, none⟩) (by simp) (.int .u8 k)) (p := ⟨w.heap.size, 1, none⟩) (by simp) (.int .i64 c)) (p := ⟨w.heap.size, 2, none⟩) (by simp) (.int .u64 saw)) (p := ⟨w.heap.size, 3, none⟩) (by simp) (.int .u64 put)) (p := ⟨w.heap.size, 4, none⟩) (by simp) (.bool ok))
    refine ⟨g1, HGS.out _ _ [w.heap.size] _ _ HA.out ?_ g2, g3, g4⟩
    repeat (refine Part.set ?_ (by simp) _)
    exact Part.refl _ _
end Go.Proofs.Ytiifhkfkcljoiaa
