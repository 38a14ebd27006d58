/- THE DOCUMENT'S OWN Step OVER WHATEVER put AND scan LEAVE. -/
import Derived.Test.YtdadgppbpomdoaaQd
namespace Go.Proofs.Ytdadgppbpomdoaa
open Go Go.RowKit

/-- the document's record of an operation under way, as plain data -/
structure DU where
  k : Int
  r : Int
  v : Int
  t : Int
  ld : Bool
  saw : Int
  at_ : Int
  last : Option Addr × Nat × Nat
  now : Option Addr × Nat × Nat
  en : Bool
  regs : Option Addr × Nat × Nat
  cl : Bool
  co : Int
def sl (s : Option Addr × Nat × Nat) : Value := .slice s.1 s.2.1 s.2.2
def DU.cells (x : DU) : List Value := undD x.k x.r x.v x.t x.ld x.saw x.at_ (sl x.last) (sl x.now) x.en (sl x.regs) x.cl x.co
def didU (d : Int × Int × Int × Int × Bool) : Value := .agg #[.int .u8 d.1, .int .i64 d.2.1, .int .u64 d.2.2.1, .int .u64 d.2.2.2.1, .bool d.2.2.2.2]
/-- what put leaves; what scan leaves -/
def PutD (w : World) (G : Option Addr × Nat × Nat → DU → Int × Int × Int × Int × Bool → World → Prop) (e : Ending) (w' : World) : Prop :=
  ∃ s x d, e = .returned (.tuple #[sl s, .agg x.cells.toArray, didU d]) ∧ Below w.heap.size w w' ∧ G s x d w'
def ScnD (w : World) (G : DU → Int × Int × Int × Int × Bool → World → Prop) (e : Ending) (w' : World) : Prop :=
  ∃ x d, e = .returned (.tuple #[.agg x.cells.toArray, didU d]) ∧ Below w.heap.size w w' ∧ G x d w'
/-- what Step leaves -/
def StpD (w : World) (G : Option Addr × Nat × Nat → DU → Int × Int × Int × Int × Bool → World → Prop) (e : Ending) (w' : World) : Prop :=
  ∃ s x d w4, e = .returned (.tuple #[sl s, .agg x.cells.toArray, didU d]) ∧ Below w.heap.size w w' ∧ w.heap.size + 3 ≤ w4.heap.size ∧ Part [w.heap.size + 1, w.heap.size + 1 + 1] w4 w' ∧ G s x d w4
set_option maxRecDepth 100000
set_option maxHeartbeats 6400000
theorem dstep_put {w : World} {A : Option Addr} {n c : Nat} {x : DU} (hk : x.k = 1) {G : Option Addr × Nat × Nat → DU → Int × Int × Int × Int × Bool → World → Prop}
    (hc : ∀ W : World, Below w.heap.size w W → W.heap.size = w.heap.size + 3 → Calls Try.prog 33 #[.slice A n c, .agg x.cells.toArray] W (PutD W G)) :
    Calls Try.prog 15 #[.slice A n c, .agg x.cells.toArray] w (StpD w G) := by
  have HB := Lib.hid (boxR_begin w x.cells)
  have HC := Lib.hid hc
  clear hc
  obtain ⟨k, r, v, t, ld, saw, at_, ⟨A1, n1, c1⟩, ⟨A2, n2, c2⟩, en, ⟨A3, n3, c3⟩, cl, co⟩ := x
  simp only at hk
  subst hk
  simp only [DU.cells, sl, undD] at HB HC ⊢
  go_enter Try.func15, Try.ntmps15
  go_upto_region 2 with fail
  go_cut [13] (fun s13 wx => s13 = .bool true ∧ ∃ b0 b1 b2, b0 = w.heap.size ∧ b1 = w.heap.size + 1 ∧ b2 = w.heap.size + 1 + 1 ∧ BoxR w b0 b1 b2 [.int .u8 1, .int .i64 r, .int .u32 v, .int .i64 t, .bool ld, .int .u64 saw, .int .i64 at_, .slice A1 n1 c1, .slice A2 n2 c2, .bool en, .slice A3 n3 c3, .bool cl, .int .i64 co] wx ∧ wx.heap.size = w.heap.size + 3)
  case first =>
    go_wp2
    go_meet
    exact ⟨rfl, _, _, _, rfl, rfl, rfl, HB.out, by simp⟩
  case rest =>
    obtain ⟨rfl, b0, b1, b2, hb0, hb1, hb2, hP, hsz⟩ := hcut
    have HR := Lib.hid hP
    have HS := Lib.hid hsz
    have HB1 := Lib.hid hb1
    have HB2 := Lib.hid hb2
    rw [← hb2, ← hb1, ← hb0]
    obtain ⟨gt0, gt1, gt2⟩ := hP.gt
    have x0 := hP.u.lt
    obtain ⟨v0, v1, v2, v3, v4, v5, v6, v7, v8, v9, v10, v11, v12⟩ := hP.u.thirteen
    have y10 : ¬ b1 = b0 := by omega
    have y20 : ¬ b2 = b0 := by omega
    have y12 : ¬ b1 = b2 := by omega
    have y21 : ¬ b2 = b1 := by omega
    clear hP hb0 hb1 hb2 hsz
    go_wp2_with (go_at_call 33; refine (HC.out wc HR.out.low HS.out).mono ?_; rintro e w4 ⟨⟨A', n', c'⟩, ⟨k', r', v', t', ld', saw', at', ⟨A1', n1', c1'⟩, ⟨A2', n2', c2'⟩, en', ⟨A3', n3', c3'⟩, cl', co'⟩, ⟨d0, d1, d2, d3, d4⟩, rfl, hb4, hG⟩; simp only [DU.cells, sl, undD, didU]; have HG := Lib.hid hG; have HB4 := Lib.hid hb4; have HR4 := Lib.hid (HR.out.on hb4); have hru := HR4.out.ru; have hrd := HR4.out.rd; unfold undO undD at hru; unfold didO at hrd; obtain ⟨q0, q1, q2, q3, q4, q5, q6, q7, q8, q9, q10, q11, q12⟩ := hru.thirteen; obtain ⟨z0, z1, z2, z3, z4⟩ := hrd.five6; have qf := hru.free; have zf := hrd.free; have x1 := hru.lt; have x2 := hrd.lt; clear hG hb4 hru hrd)
    refine bodyPost_ret (v := .tuple #[.slice A' n' c', .agg #[.int .u8 k', .int .i64 r', .int .u32 v', .int .i64 t', .bool ld', .int .u64 saw', .int .i64 at', .slice A1' n1' c1', .slice A2' n2' c2', .bool en', .slice A3' n3' c3', .bool cl', .int .i64 co'], .agg #[.int .u8 d0, .int .i64 d1, .int .u64 d2, .int .u64 d3, .bool d4]]) (by simp [results, Try.results15, go_sem, q0, q1, q2, q3, q4, q5, q6, q7, q8, q9, q10, q11, q12, z0, z1, z2, z3, z4, y10, y20, y12, y21]) rfl ⟨⟨A', n', c'⟩, ⟨k', r', v', t', ld', saw', at', ⟨A1', n1', c1'⟩, ⟨A2', n2', c2'⟩, en', ⟨A3', n3', c3'⟩, cl', co'⟩, ⟨d0, d1, d2, d3, d4⟩, w4, rfl, ?_, ?_, ?_, HG.out⟩
    · repeat (first | (with_reducible exact HR4.out.low) | refine Below.setCell ?_ (by (try simp); omega) _)
    · have := HB4.out.size; have := HS.out; omega
    · rw [← HB2.out, ← HB1.out]
      repeat (first | (with_reducible exact Part.refl _ _) | refine Part.set ?_ (by simp) _)
theorem dstep_scan {w : World} {A : Option Addr} {n c : Nat} {x : DU} (hk : x.k = 3) {G : Option Addr × Nat × Nat → DU → Int × Int × Int × Int × Bool → World → Prop}
    (hc : ∀ W : World, Below w.heap.size w W → W.heap.size = w.heap.size + 3 → Calls Try.prog 34 #[.slice A n c, .agg x.cells.toArray] W (ScnD W (G (A, n, c)))) :
    Calls Try.prog 15 #[.slice A n c, .agg x.cells.toArray] w (StpD w G) := by
  have HB := Lib.hid (boxR_begin w x.cells)
  have HC := Lib.hid hc
  clear hc
  obtain ⟨k, r, v, t, ld, saw, at_, ⟨A1, n1, c1⟩, ⟨A2, n2, c2⟩, en, ⟨A3, n3, c3⟩, cl, co⟩ := x
  simp only at hk
  subst hk
  simp only [DU.cells, sl, undD] at HB HC ⊢
  go_enter Try.func15, Try.ntmps15
  go_upto_region 4 with fail
  go_cut [21] (fun s21 wx => s21 = .bool true ∧ ∃ b0 b1 b2, b0 = w.heap.size ∧ b1 = w.heap.size + 1 ∧ b2 = w.heap.size + 1 + 1 ∧ BoxR w b0 b1 b2 [.int .u8 3, .int .i64 r, .int .u32 v, .int .i64 t, .bool ld, .int .u64 saw, .int .i64 at_, .slice A1 n1 c1, .slice A2 n2 c2, .bool en, .slice A3 n3 c3, .bool cl, .int .i64 co] wx ∧ wx.heap.size = w.heap.size + 3)
  case first =>
    go_wp2
    go_meet
    exact ⟨rfl, _, _, _, rfl, rfl, rfl, HB.out, by simp⟩
  case rest =>
    obtain ⟨rfl, b0, b1, b2, hb0, hb1, hb2, hP, hsz⟩ := hcut
    have HR := Lib.hid hP
    have HS := Lib.hid hsz
    have HB1 := Lib.hid hb1
    have HB2 := Lib.hid hb2
    rw [← hb2, ← hb1, ← hb0]
    obtain ⟨gt0, gt1, gt2⟩ := hP.gt
    have x0 := hP.u.lt
    obtain ⟨v0, v1, v2, v3, v4, v5, v6, v7, v8, v9, v10, v11, v12⟩ := hP.u.thirteen
    have y10 : ¬ b1 = b0 := by omega
    have y20 : ¬ b2 = b0 := by omega
    have y12 : ¬ b1 = b2 := by omega
    have y21 : ¬ b2 = b1 := by omega
    clear hP hb0 hb1 hb2 hsz
    have hX : ∀ z, ¬ wc.heap.size = z → True := fun _ _ => trivial
    clear hX
    go_upto_region 5 with fail
    go_cut [7, 8] (fun s7 s8 wx => ∃ A1' n1' c1' A2' n2' c2' A3' n3' c3', ∃ (k' r' v' t' saw' at' co' : Int) (ld' en' cl' : Bool) (d0 d1 d2 d3 : Int) (d4 : Bool) (b7 b8 : Nat) (w4 : World), s7 = .pointer (some ⟨b7, 0, none⟩) ∧ s8 = .pointer (some ⟨b8, 0, none⟩) ∧ b2 < b7 ∧ b2 < b8 ∧
      Row wx b7 45 (undD k' r' v' t' ld' saw' at' (.slice A1' n1' c1') (.slice A2' n2' c2') en' (.slice A3' n3' c3') cl' co') ∧ Row wx b8 48 [.int .u8 d0, .int .i64 d1, .int .u64 d2, .int .u64 d3, .bool d4] ∧ BoxR w b0 b1 b2 [.int .u8 3, .int .i64 r, .int .u32 v, .int .i64 t, .bool ld, .int .u64 saw, .int .i64 at_, .slice A1 n1 c1, .slice A2 n2 c2, .bool en, .slice A3 n3 c3, .bool cl, .int .i64 co] wx ∧
      w.heap.size + 3 ≤ w4.heap.size ∧ Below w4.heap.size w4 wx ∧ G (A, n, c) ⟨k', r', v', t', ld', saw', at', ⟨A1', n1', c1'⟩, ⟨A2', n2', c2'⟩, en', ⟨A3', n3', c3'⟩, cl', co'⟩ ⟨d0, d1, d2, d3, d4⟩ w4)
    case first =>
      go_wp2_with (go_at_call 34; refine (HC.out wc HR.out.low HS.out).mono ?_; rintro e w4 ⟨⟨k', r', v', t', ld', saw', at', ⟨A1', n1', c1'⟩, ⟨A2', n2', c2'⟩, en', ⟨A3', n3', c3'⟩, cl', co'⟩, ⟨d0, d1, d2, d3, d4⟩, rfl, hb4, hG⟩; simp only [DU.cells, sl, undD, didU]; have HG := Lib.hid hG; have HB4 := Lib.hid hb4; have HR4 := Lib.hid (HR.out.on hb4); clear hG hb4)
      go_meet
      have h4 : w.heap.size + 3 ≤ w4.heap.size := by have := HB4.out.size; have := HS.out; omega
      have hx2 := HR4.out.rd.lt
      have hbb : Below w4.heap.size w4 ((w4.alloc (.cells (undD k' r' v' t' ld' saw' at' (.slice A1' n1' c1') (.slice A2' n2' c2') en' (.slice A3' n3' c3') cl' co').toArray 45)).alloc (.cells #[.int .u8 d0, .int .i64 d1, .int .u64 d2, .int .u64 d3, .bool d4] 48)) := ((Below.refl _ _).alloc (Nat.le_refl _) _).alloc (by simp) _
      exact ⟨A1', n1', c1', A2', n2', c2', A3', n3', c3', k', r', v', t', saw', at', co', ld', en', cl', d0, d1, d2, d3, d4, _, _, w4, rfl, rfl, hx2, by omega, (Row.new w4 45 (undD k' r' v' t' ld' saw' at' (.slice A1' n1' c1') (.slice A2' n2' c2') en' (.slice A3' n3' c3') cl' co')).alloc _, by have := Row.new (w4.alloc (.cells (undD k' r' v' t' ld' saw' at' (.slice A1' n1' c1') (.slice A2' n2' c2') en' (.slice A3' n3' c3') cl' co').toArray 45)) 48 [.int .u8 d0, .int .i64 d1, .int .u64 d2, .int .u64 d3, .bool d4]; rwa [World.size_alloc] at this, HR4.out.on hbb, h4, hbb, HG.out⟩
    case rest =>
      obtain ⟨A1', n1', c1', A2', n2', c2', A3', n3', c3', k', r', v', t', saw', at', co', ld', en', cl', d0, d1, d2, d3, d4, b7, b8, w4, rfl, rfl, hb7, hb8, h7, h8, hBX, h4, hbl, hG⟩ := hcut
      have HR5 := Lib.hid hBX
      have HG := Lib.hid hG
      have HBL := Lib.hid hbl
      have H4 := Lib.hid h4
      have hru := hBX.ru
      have hrd := hBX.rd
      unfold undO undD at hru
      unfold didO at hrd
      unfold undD at h7
      obtain ⟨q0, q1, q2, q3, q4, q5, q6, q7, q8, q9, q10, q11, q12⟩ := hru.thirteen
      obtain ⟨z0, z1, z2, z3, z4⟩ := hrd.five6
      obtain ⟨m0, m1, m2, m3, m4, m5, m6, m7, m8, m9, m10, m11, m12⟩ := h7.thirteen
      obtain ⟨e0, e1, e2, e3, e4⟩ := h8.five6
      have qf := hru.free
      have zf := hrd.free
      have x1 := hru.lt
      have x2 := hrd.lt
      have x7 := h7.lt
      have x8 := h8.lt
      have n71 : ¬ b7 = b1 := by omega
      have n17 : ¬ b1 = b7 := by omega
      have n72 : ¬ b7 = b2 := by omega
      have n27 : ¬ b2 = b7 := by omega
      have n81 : ¬ b8 = b1 := by omega
      have n18 : ¬ b1 = b8 := by omega
      have n82 : ¬ b8 = b2 := by omega
      have n28 : ¬ b2 = b8 := by omega
      clear hG hbl hBX hru hrd h7 h8 h4 v0 v1 v2 v3 v4 v5 v6 v7 v8 v9 v10 v11 v12 x0
      go_wp2
      go_region
      all_goals
        go_wp2
        refine bodyPost_ret (v := .tuple #[.slice A n c, .agg #[.int .u8 k', .int .i64 r', .int .u32 v', .int .i64 t', .bool ld', .int .u64 saw', .int .i64 at', .slice A1' n1' c1', .slice A2' n2' c2', .bool en', .slice A3' n3' c3', .bool cl', .int .i64 co'], .agg #[.int .u8 d0, .int .i64 d1, .int .u64 d2, .int .u64 d3, .bool d4]]) (by simp [results, Try.results15, go_sem, q0, q1, q2, q3, q4, q5, q6, q7, q8, q9, q10, q11, q12, z0, z1, z2, z3, z4, y10, y20, y12, y21]) rfl ⟨⟨A, n, c⟩, ⟨k', r', v', t', ld', saw', at', ⟨A1', n1', c1'⟩, ⟨A2', n2', c2'⟩, en', ⟨A3', n3', c3'⟩, cl', co'⟩, ⟨d0, d1, d2, d3, d4⟩, w4, rfl, ?_, H4.out, ?_, HG.out⟩
        · repeat (first | (with_reducible exact HR5.out.low) | (with_reducible refine Below.drew ?_) | (with_reducible refine Below.draws ?_ _) | refine Below.setCell ?_ (by (try simp); omega) _)
        · rw [← HB2.out, ← HB1.out]
          repeat (first | (with_reducible exact Part.of_below HBL.out (Nat.le_refl _) _) | (with_reducible refine Part.drew ?_) | (with_reducible refine Part.drewN ?_ _) | refine Part.set ?_ (by simp) _)
end Go.Proofs.Ytdadgppbpomdoaa
