/- THE WALKS of package sem: an action, over what the function leaves that is handed what it did. -/
import Derived.Test.YtamigipljgijlaaNb
import Derived.Deep.Cut
import Derived.Deep.CutRange
import Derived.Deep.DeepCutAuto
import Derived.Deep.RegionHeld3
namespace Go.Proofs.Ytamigipljgijlaa
open Go Go.RowKit
set_option maxRecDepth 100000
/-- what holds of a world's boxes stays where only blocks turn that are no function's boxes -/
def Stays (G : World → Value → Int → Int → Prop) : Prop := ∀ w1 w2 S nx an wy, G w1 nx an wy → Part S w1 w2 → Hard S w1 → G w2 nx an wy
def ActTo (w : World) (bp bs bk bw : Nat) (pl d g : Int) (did : Array Value) (G : World → Value → Int → Int → Prop) (e : Ending) (w' : World) : Prop :=
  e = .returned (.agg did) ∧ ∃ nx' an' wy', Row w' bp 69 (pendM bs nx' an' wy') ∧ G w' nx' an' wy' ∧ SemM w' bs bk bw pl d g ∧ Part [bp, bw] w w'
theorem act1_load {w : World} {bp bs bk bw b1 b2 b3 b : Nat} {nx : Value} {an wy pl d g d' g' k c o n saw put : Int} {ok : Bool} {G : World → Value → Int → Int → Prop} (hp : Row w bp 69 (pendM bs nx an wy)) (hs : SemM w bs bk bw pl d g)
    (h1 : Row w b1 35 [.pointer (some ⟨bp, 0, none⟩)]) (h2 : Row w b2 79 [.int .u8 k, .int .i64 c, .int .u64 o, .int .u64 n]) (h3 : Row w b3 81 [.func (.func 53) #[] #[.pointer (some ⟨b, 0, none⟩)]])
    (hDo : ∀ w0, Words w0 bk bw [d, g] → Calls Try.prog 44 #[.pointer (some ⟨bk, 0, none⟩), .agg #[.int .u8 k, .int .i64 c, .int .u64 o, .int .u64 n]] w0 (Acted w0 bk bw [d', g'] (.tuple #[.agg #[.int .u8 k, .int .i64 c, .int .u64 saw, .int .u64 put, .bool ok], .int .i64 0])))
    (hT : ∀ wc, Part [bw] w wc → Row wc bp 69 (pendM bs nx an wy) → Row wc bs 66 [.pointer (some ⟨bk, 0, none⟩), .int .u64 pl] → Calls Try.prog 53 #[.agg #[.int .u8 k, .int .i64 c, .int .u64 saw, .int .u64 put, .bool ok], .pointer (some ⟨b, 0, none⟩)] wc (TellTo wc bp bs G))
    (hG : Stays G) :
    Calls Try.prog 43 #[.pointer (some ⟨b1, 0, none⟩), .pointer (some ⟨b2, 0, none⟩), .pointer (some ⟨b3, 0, none⟩)] w (ActTo w bp bs bk bw pl d' g' #[.int .u8 k, .int .i64 c, .int .u64 saw, .int .u64 put, .bool ok] G) := by
  have c1 : w.cell? ⟨b1, 0, none⟩ = some (.pointer (some ⟨bp, 0, none⟩)) := h1.cell 0
  obtain ⟨a0, a1, a2, a3⟩ := h2.four
  have c3 : w.cell? ⟨b3, 0, none⟩ = some (.func (.func 53) #[] #[.pointer (some ⟨b, 0, none⟩)]) := h3.cell 0
  have p0 : w.cell? ⟨bp, 0, none⟩ = some (.pointer (some ⟨bs, 0, none⟩)) := hp.cell 0
  have s0 : w.cell? ⟨bs, 0, none⟩ = some (.pointer (some ⟨bk, 0, none⟩)) := hs.head.cell 0
  have l1 := h1.lt
  have l2 := h2.lt
  have l3 := h3.lt
  have lp := hp.lt
  have ls := hs.head.lt
  have lw := hs.words.row.lt
  have n1 : Hid (b1 ∉ [bw]) := Lib.hid (by simpa using h1.ne hs.words.row (by decide))
  have n2 : Hid (b2 ∉ [bw]) := Lib.hid (by simpa using h2.ne hs.words.row (by decide))
  have n3 : Hid (b3 ∉ [bw]) := Lib.hid (by simpa using h3.ne hs.words.row (by decide))
  have np : Hid (bp ∉ [bw]) := Lib.hid (by simpa using hp.ne hs.words.row (by decide))
  have ns : Hid (bs ∉ [bw]) := Lib.hid (by simpa using hs.head.ne hs.words.row (by decide))
  have nd1 : Hid (w.heap.size + 1 ∉ [bw]) := Lib.hid (by simp; omega)
  have e1 : ¬ w.heap.size + 1 = bp := by omega
  have e2 : ¬ bp = w.heap.size + 1 := by omega
  have e3 : ¬ w.heap.size + 1 = bs := by omega
  have e4 : ¬ bs = w.heap.size + 1 := by omega
  have e5 : ¬ w.heap.size + 1 = b1 := by omega
  have e6 : ¬ b1 = w.heap.size + 1 := by omega
  have e7 : ¬ w.heap.size + 1 = b2 := by omega
  have e8 : ¬ b2 = w.heap.size + 1 := by omega
  have H1 := Lib.hid h1
  have H2 := Lib.hid h2
  have H3 := Lib.hid h3
  have HP := Lib.hid hp
  have HS := Lib.hid hs
  have HDO := Lib.hid hDo
  have HT := Lib.hid hT
  have HGS := Lib.hid hG
  clear h1 h2 h3 hp hs hDo hT hG
  go_enter Try.func43, Try.ntmps43
  go_upto_region 1 with fail
  go_cut [4] (fun s4 wx => MidG w bk bw bp [d', g'] (pendM bs nx an wy) [.int .u8 k, .int .i64 c, .int .u64 saw, .int .u64 put, .bool ok] s4 wx)
  case first =>
    go_region_held3 (fun w' => w'.cell? ⟨b1, 0, none⟩ = some (.pointer (some ⟨bp, 0, none⟩)) ∧ w'.cell? ⟨bp, 0, none⟩ = some (.pointer (some ⟨bs, 0, none⟩)) ∧ w'.cell? ⟨bs, 0, none⟩ = some (.pointer (some ⟨bk, 0, none⟩)) ∧ w'.cell? ⟨b2, 0, none⟩ = some (.int .u8 k) ∧ w'.cell? ⟨b2, 1, none⟩ = some (.int .i64 c) ∧ w'.cell? ⟨b2, 2, none⟩ = some (.int .u64 o) ∧ w'.cell? ⟨b2, 3, none⟩ = some (.int .u64 n))
      (first | (with_reducible exact ⟨q0, q1, q2, q3, q4, q5, q6⟩) | go_keep)
      (first
      | (go_at_call 44; (with_reducible refine (HDO.out _ (HS.out.words.alloc _).drew).mono ?_); rintro e w2 ⟨rfl, hW2, hP2⟩; have q0 := (Row.part (Row.drew (H1.out.alloc _)) hP2 n1.out).cell 0; have hpr := Row.part (Row.drew (HP.out.alloc _)) hP2 np.out; have q1 : w2.cell? ⟨bp, 0, none⟩ = some (.pointer (some ⟨bs, 0, none⟩)) := hpr.cell 0; have q2 := (Row.part (Row.drew (HS.out.head.alloc _)) hP2 ns.out).cell 0; obtain ⟨q3, q4, q5, q6⟩ := (Row.part (Row.drew (H2.out.alloc _)) hP2 n2.out).four; have ql1 := (Row.part (Row.drew (H1.out.alloc _)) hP2 n1.out).lt; have ql2 := (Row.part (Row.drew (H2.out.alloc _)) hP2 n2.out).lt; have qlp := hpr.lt; have qls := (Row.part (Row.drew (HS.out.head.alloc _)) hP2 ns.out).lt; have HMA := Lib.hid (mids_a HS.out.words HP.out hW2 hP2 (did := [.int .u8 k, .int .i64 c, .int .u64 saw, .int .u64 put, .bool ok])); clear hpr hW2 hP2)
      | (go_at_call 44; (with_reducible refine (HDO.out _ ((HS.out.words.alloc _).alloc _).drew).mono ?_); rintro e w2 ⟨rfl, hW2, hP2⟩; have q0 := (Row.part (Row.drew ((H1.out.alloc _).alloc _)) hP2 n1.out).cell 0; have hpr := Row.part (Row.drew ((HP.out.alloc _).alloc _)) hP2 np.out; have q1 : w2.cell? ⟨bp, 0, none⟩ = some (.pointer (some ⟨bs, 0, none⟩)) := hpr.cell 0; have q2 := (Row.part (Row.drew ((HS.out.head.alloc _).alloc _)) hP2 ns.out).cell 0; obtain ⟨q3, q4, q5, q6⟩ := (Row.part (Row.drew ((H2.out.alloc _).alloc _)) hP2 n2.out).four; have HMB := Lib.hid (mids_b HS.out.words HP.out hW2 hP2 (k := k) (c := c) (saw := saw) (put := put) (ok := ok)); have hr3 : Row w2 (w.heap.size + 1) 45 noDid := Row.part (Row.new2 w _ _ _ rfl).drew hP2 nd1.out; unfold noDid at hr3; obtain ⟨d0, d1, d2, d3, d4⟩ := hr3.five; have hf3 := hr3.free; have hlt3 := hr3.lt; clear hpr hr3 hW2 hP2))
    all_goals
      go_wp2_with fail
      go_meet
      first | exact ⟨_, rfl, HMA.out⟩ | exact ⟨_, rfl, HMB.out⟩ | exact ⟨_, rfl, HMA.out.drew⟩ | exact ⟨_, rfl, HMB.out.drew⟩
  case rest =>
    obtain ⟨gb, rfl, hM⟩ := hcut
    have h3' := H3.out.part hM.part n3.out
    have HTT := Lib.hid (HT.out wc hM.part hM.pend (HS.out.head.part hM.part ns.out))
    have c3' : wc.cell? ⟨b3, 0, none⟩ = some (.func (.func 53) #[] #[.pointer (some ⟨b, 0, none⟩)]) := h3'.cell 0
    obtain ⟨t0, t1, t2, t3, t4⟩ := hM.did.five
    have hres := hM.res
    have hgp : gb ∉ [bp] := by simpa using hM.did.ne hM.pend (by decide)
    have hrp : w.heap.size ∉ [bp] := by simpa using hM.res.ne hM.pend (by decide)
    have HM := Lib.hid hM
    have HGP := Lib.hid hgp
    have HRP := Lib.hid hrp
    have f1 : ¬ gb = w.heap.size := by have := hM.lo; omega
    have f2 : ¬ w.heap.size = gb := by have := hM.lo; omega
    clear h3' hM hres hgp hrp c1 a0 a1 a2 a3 c3 p0 s0
    go_wp2_with (go_at_call 53; (with_reducible refine HTT.out.mono ?_); rintro e w3 ⟨rfl, nx', an', wy', hr, ha, hP⟩; have hd := HM.out.did.part hP HGP.out; have hz := HM.out.res.part hP HRP.out; unfold noDid at hz; obtain ⟨z0, z1, z2, z3, z4⟩ := hz.five; have zf := hz.free; have zl := hz.lt; obtain ⟨t0, t1, t2, t3, t4⟩ := hd.five; have tl := hd.lt; have HZ := Lib.hid hz; have HR := Lib.hid hr; have HA := Lib.hid ha; have HQ := Lib.hid hP; clear hd hz hr ha hP)
    refine bodyPost_ret (v := .agg #[.int .u8 k, .int .i64 c, .int .u64 saw, .int .u64 put, .bool ok]) (by simp [results, Try.results43, go_sem, z0, z1, z2, z3, z4]) rfl ⟨rfl, nx', an', wy', ?_⟩
    obtain ⟨g1, g2, g3, g4⟩ := step_end HS.out HM.out HR.out HQ.out HZ.out (Part.set (Part.set (Part.set (Part.set (Part.set (Part.refl [w.heap.size] w3) (p := ⟨w.heap.size, 0, none⟩) (by simp) (.int .u8 k)) (p := ⟨w.heap.size, 1, none⟩) (by simp) (.int .i64 c)) (p := ⟨w.heap.size, 2, none⟩) (by simp) (.int .u64 saw)) (p := ⟨w.heap.size, 3, none⟩) (by simp) (.int .u64 put)) (p := ⟨w.heap.size, 4, none⟩) (by simp) (.bool ok))
    refine ⟨g1, HGS.out _ _ [w.heap.size] _ _ _ HA.out ?_ g2, g3, g4⟩
    repeat (refine Part.set ?_ (by simp) _)
    exact Part.refl _ _
theorem act1_raise {w : World} {bp bs bk bw b1 b2 b3 b4 b5 b6 : Nat} {nx : Value} {an wy pl d g d' g' k c o n saw put : Int} {ok : Bool} {G : World → Value → Int → Int → Prop} (hp : Row w bp 69 (pendM bs nx an wy)) (hs : SemM w bs bk bw pl d g)
    (h1 : Row w b1 35 [.pointer (some ⟨bp, 0, none⟩)]) (h2 : Row w b2 79 [.int .u8 k, .int .i64 c, .int .u64 o, .int .u64 n]) (h3 : Row w b3 81 [.func (.func 49) #[] #[.pointer (some ⟨b4, 0, none⟩), .pointer (some ⟨b5, 0, none⟩), .pointer (some ⟨b6, 0, none⟩)]])
    (hDo : ∀ w0, Words w0 bk bw [d, g] → Calls Try.prog 44 #[.pointer (some ⟨bk, 0, none⟩), .agg #[.int .u8 k, .int .i64 c, .int .u64 o, .int .u64 n]] w0 (Acted w0 bk bw [d', g'] (.tuple #[.agg #[.int .u8 k, .int .i64 c, .int .u64 saw, .int .u64 put, .bool ok], .int .i64 0])))
    (hT : ∀ wc, Part [bw] w wc → Row wc bp 69 (pendM bs nx an wy) → Row wc bs 66 [.pointer (some ⟨bk, 0, none⟩), .int .u64 pl] → Calls Try.prog 49 #[.agg #[.int .u8 k, .int .i64 c, .int .u64 saw, .int .u64 put, .bool ok], .pointer (some ⟨b4, 0, none⟩), .pointer (some ⟨b5, 0, none⟩), .pointer (some ⟨b6, 0, none⟩)] wc (TellTo wc bp bs G))
    (hG : Stays G) :
    Calls Try.prog 43 #[.pointer (some ⟨b1, 0, none⟩), .pointer (some ⟨b2, 0, none⟩), .pointer (some ⟨b3, 0, none⟩)] w (ActTo w bp bs bk bw pl d' g' #[.int .u8 k, .int .i64 c, .int .u64 saw, .int .u64 put, .bool ok] G) := by
  have c1 : w.cell? ⟨b1, 0, none⟩ = some (.pointer (some ⟨bp, 0, none⟩)) := h1.cell 0
  obtain ⟨a0, a1, a2, a3⟩ := h2.four
  have c3 : w.cell? ⟨b3, 0, none⟩ = some (.func (.func 49) #[] #[.pointer (some ⟨b4, 0, none⟩), .pointer (some ⟨b5, 0, none⟩), .pointer (some ⟨b6, 0, none⟩)]) := h3.cell 0
  have p0 : w.cell? ⟨bp, 0, none⟩ = some (.pointer (some ⟨bs, 0, none⟩)) := hp.cell 0
  have s0 : w.cell? ⟨bs, 0, none⟩ = some (.pointer (some ⟨bk, 0, none⟩)) := hs.head.cell 0
  have l1 := h1.lt
  have l2 := h2.lt
  have l3 := h3.lt
  have lp := hp.lt
  have ls := hs.head.lt
  have lw := hs.words.row.lt
  have n1 : Hid (b1 ∉ [bw]) := Lib.hid (by simpa using h1.ne hs.words.row (by decide))
  have n2 : Hid (b2 ∉ [bw]) := Lib.hid (by simpa using h2.ne hs.words.row (by decide))
  have n3 : Hid (b3 ∉ [bw]) := Lib.hid (by simpa using h3.ne hs.words.row (by decide))
  have np : Hid (bp ∉ [bw]) := Lib.hid (by simpa using hp.ne hs.words.row (by decide))
  have ns : Hid (bs ∉ [bw]) := Lib.hid (by simpa using hs.head.ne hs.words.row (by decide))
  have nd1 : Hid (w.heap.size + 1 ∉ [bw]) := Lib.hid (by simp; omega)
  have e1 : ¬ w.heap.size + 1 = bp := by omega
  have e2 : ¬ bp = w.heap.size + 1 := by omega
  have e3 : ¬ w.heap.size + 1 = bs := by omega
  have e4 : ¬ bs = w.heap.size + 1 := by omega
  have e5 : ¬ w.heap.size + 1 = b1 := by omega
  have e6 : ¬ b1 = w.heap.size + 1 := by omega
  have e7 : ¬ w.heap.size + 1 = b2 := by omega
  have e8 : ¬ b2 = w.heap.size + 1 := by omega
  have H1 := Lib.hid h1
  have H2 := Lib.hid h2
  have H3 := Lib.hid h3
  have HP := Lib.hid hp
  have HS := Lib.hid hs
  have HDO := Lib.hid hDo
  have HT := Lib.hid hT
  have HGS := Lib.hid hG
  clear h1 h2 h3 hp hs hDo hT hG
  go_enter Try.func43, Try.ntmps43
  go_upto_region 1 with fail
  go_cut [4] (fun s4 wx => MidG w bk bw bp [d', g'] (pendM bs nx an wy) [.int .u8 k, .int .i64 c, .int .u64 saw, .int .u64 put, .bool ok] s4 wx)
  case first =>
    go_region_held3 (fun w' => w'.cell? ⟨b1, 0, none⟩ = some (.pointer (some ⟨bp, 0, none⟩)) ∧ w'.cell? ⟨bp, 0, none⟩ = some (.pointer (some ⟨bs, 0, none⟩)) ∧ w'.cell? ⟨bs, 0, none⟩ = some (.pointer (some ⟨bk, 0, none⟩)) ∧ w'.cell? ⟨b2, 0, none⟩ = some (.int .u8 k) ∧ w'.cell? ⟨b2, 1, none⟩ = some (.int .i64 c) ∧ w'.cell? ⟨b2, 2, none⟩ = some (.int .u64 o) ∧ w'.cell? ⟨b2, 3, none⟩ = some (.int .u64 n))
      (first | (with_reducible exact ⟨q0, q1, q2, q3, q4, q5, q6⟩) | go_keep)
      (first
      | (go_at_call 44; (with_reducible refine (HDO.out _ (HS.out.words.alloc _).drew).mono ?_); rintro e w2 ⟨rfl, hW2, hP2⟩; have q0 := (Row.part (Row.drew (H1.out.alloc _)) hP2 n1.out).cell 0; have hpr := Row.part (Row.drew (HP.out.alloc _)) hP2 np.out; have q1 : w2.cell? ⟨bp, 0, none⟩ = some (.pointer (some ⟨bs, 0, none⟩)) := hpr.cell 0; have q2 := (Row.part (Row.drew (HS.out.head.alloc _)) hP2 ns.out).cell 0; obtain ⟨q3, q4, q5, q6⟩ := (Row.part (Row.drew (H2.out.alloc _)) hP2 n2.out).four; have ql1 := (Row.part (Row.drew (H1.out.alloc _)) hP2 n1.out).lt; have ql2 := (Row.part (Row.drew (H2.out.alloc _)) hP2 n2.out).lt; have qlp := hpr.lt; have qls := (Row.part (Row.drew (HS.out.head.alloc _)) hP2 ns.out).lt; have HMA := Lib.hid (mids_a HS.out.words HP.out hW2 hP2 (did := [.int .u8 k, .int .i64 c, .int .u64 saw, .int .u64 put, .bool ok])); clear hpr hW2 hP2)
      | (go_at_call 44; (with_reducible refine (HDO.out _ ((HS.out.words.alloc _).alloc _).drew).mono ?_); rintro e w2 ⟨rfl, hW2, hP2⟩; have q0 := (Row.part (Row.drew ((H1.out.alloc _).alloc _)) hP2 n1.out).cell 0; have hpr := Row.part (Row.drew ((HP.out.alloc _).alloc _)) hP2 np.out; have q1 : w2.cell? ⟨bp, 0, none⟩ = some (.pointer (some ⟨bs, 0, none⟩)) := hpr.cell 0; have q2 := (Row.part (Row.drew ((HS.out.head.alloc _).alloc _)) hP2 ns.out).cell 0; obtain ⟨q3, q4, q5, q6⟩ := (Row.part (Row.drew ((H2.out.alloc _).alloc _)) hP2 n2.out).four; have HMB := Lib.hid (mids_b HS.out.words HP.out hW2 hP2 (k := k) (c := c) (saw := saw) (put := put) (ok := ok)); have hr3 : Row w2 (w.heap.size + 1) 45 noDid := Row.part (Row.new2 w _ _ _ rfl).drew hP2 nd1.out; unfold noDid at hr3; obtain ⟨d0, d1, d2, d3, d4⟩ := hr3.five; have hf3 := hr3.free; have hlt3 := hr3.lt; clear hpr hr3 hW2 hP2))
    all_goals
      go_wp2_with fail
      go_meet
      first | exact ⟨_, rfl, HMA.out⟩ | exact ⟨_, rfl, HMB.out⟩ | exact ⟨_, rfl, HMA.out.drew⟩ | exact ⟨_, rfl, HMB.out.drew⟩
  case rest =>
    obtain ⟨gb, rfl, hM⟩ := hcut
    have h3' := H3.out.part hM.part n3.out
    have HTT := Lib.hid (HT.out wc hM.part hM.pend (HS.out.head.part hM.part ns.out))
    have c3' : wc.cell? ⟨b3, 0, none⟩ = some (.func (.func 49) #[] #[.pointer (some ⟨b4, 0, none⟩), .pointer (some ⟨b5, 0, none⟩), .pointer (some ⟨b6, 0, none⟩)]) := h3'.cell 0
    obtain ⟨t0, t1, t2, t3, t4⟩ := hM.did.five
    have hres := hM.res
    have hgp : gb ∉ [bp] := by simpa using hM.did.ne hM.pend (by decide)
    have hrp : w.heap.size ∉ [bp] := by simpa using hM.res.ne hM.pend (by decide)
    have HM := Lib.hid hM
    have HGP := Lib.hid hgp
    have HRP := Lib.hid hrp
    have f1 : ¬ gb = w.heap.size := by have := hM.lo; omega
    have f2 : ¬ w.heap.size = gb := by have := hM.lo; omega
    clear h3' hM hres hgp hrp c1 a0 a1 a2 a3 c3 p0 s0
    go_wp2_with (go_at_call 49; (with_reducible refine HTT.out.mono ?_); rintro e w3 ⟨rfl, nx', an', wy', hr, ha, hP⟩; have hd := HM.out.did.part hP HGP.out; have hz := HM.out.res.part hP HRP.out; unfold noDid at hz; obtain ⟨z0, z1, z2, z3, z4⟩ := hz.five; have zf := hz.free; have zl := hz.lt; obtain ⟨t0, t1, t2, t3, t4⟩ := hd.five; have tl := hd.lt; have HZ := Lib.hid hz; have HR := Lib.hid hr; have HA := Lib.hid ha; have HQ := Lib.hid hP; clear hd hz hr ha hP)
    refine bodyPost_ret (v := .agg #[.int .u8 k, .int .i64 c, .int .u64 saw, .int .u64 put, .bool ok]) (by simp [results, Try.results43, go_sem, z0, z1, z2, z3, z4]) rfl ⟨rfl, nx', an', wy', ?_⟩
    obtain ⟨g1, g2, g3, g4⟩ := step_end HS.out HM.out HR.out HQ.out HZ.out (Part.set (Part.set (Part.set (Part.set (Part.set (Part.refl [w.heap.size] w3) (p := ⟨w.heap.size, 0, none⟩) (by simp) (.int .u8 k)) (p := ⟨w.heap.size, 1, none⟩) (by simp) (.int .i64 c)) (p := ⟨w.heap.size, 2, none⟩) (by simp) (.int .u64 saw)) (p := ⟨w.heap.size, 3, none⟩) (by simp) (.int .u64 put)) (p := ⟨w.heap.size, 4, none⟩) (by simp) (.bool ok))
    refine ⟨g1, HGS.out _ _ [w.heap.size] _ _ _ HA.out ?_ g2, g3, g4⟩
    repeat (refine Part.set ?_ (by simp) _)
    exact Part.refl _ _
end Go.Proofs.Ytamigipljgijlaa
