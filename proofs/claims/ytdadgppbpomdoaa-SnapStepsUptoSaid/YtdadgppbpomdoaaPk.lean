/- THE WALKS of package snap: collected. -/
import Derived.Test.YtdadgppbpomdoaaPi
namespace Go.Proofs.Ytdadgppbpomdoaa
open Go Go.RowKit

/-- a scan under way: its thirteen cells -/
def scanL (bk : Nat) (t : Int) (nx va vw : Value) (c : Int) (vr : Value) (cl : Bool) (vc : Int) : List Value := pendP bk 3 0 0 t nx 0 va vw c vr cl vc
theorem own_block {w : World} {base n size : Nat} {e : TypeId} {v : Value} {xs : List Value} (h : w.ownsRow base e size v n xs) : ∀ q, v.ownBlock = some q → q < w.heap.size := by
  intro q hq
  rcases h.2 with ⟨e, _⟩ | ⟨g', _, _, e, _, hh, _⟩
  · rw [e] at hq; cases hq
  · rw [e] at hq; cases hq; exact lt_of_block hh
theorem Lies.draws {w : World} {g : Nat} {xs : List Int} (h : Lies w g xs) (n : Nat) : Lies (w.drewN n) g xs := h
theorem Lies.drew {w : World} {g : Nat} {xs : List Int} (h : Lies w g xs) : Lies w.drew g xs := h
/-- the list of the collect ahead: none, or it lies at the head of a block -/
def AheadL (w : World) (bp : Nat) (a : Option Addr) (la : List Int) : Prop := 0 < la.length → ∃ ga, a = some ⟨ga, 0, none⟩ ∧ Lies w ga la ∧ ga < w.heap.size ∧ ga ≠ bp
theorem equal_is {w : World} {bp g n cw m ca : Nat} {a : Option Addr} {xs la : List Int} {b : Bool} (hb : decide (xs = la) = b) (hx : Lies w g xs) (hxn : xs.length = n) (hm : la.length = m) (hla : AheadL w bp a la) (hn : n ≤ 64) (hn0 : 0 < n) :
    Calls Try.prog 43 #[.slice (some ⟨g, 0, none⟩) n cw, .slice a m ca] w fun e w' => e = .returned (.bool b) ∧ ∃ k, w' = w.drewN k := by
  subst hb
  by_cases e : n = m
  · subst e
    obtain ⟨ga, rfl, hl, _⟩ := hla (by omega)
    exact equal_any hx hl hxn hm (by omega)
  · rw [decide_eq_false (fun e' => e (by rw [← hxn, ← hm, e']))]
    exact (equal_len e).mono fun _ _ ⟨a, b⟩ => ⟨a, 0, b.symm⟩
theorem Below.undrew2 {B k : Nat} {w w' : World} (h : Below B (w.drewN k).drew w') : Below B w w' := ⟨h.os, h.tape, h.output, h.size, h.block⟩
theorem regsof_n {w : World} {g c n : Nat} {xs : List Int} (h : Lies w g xs) (hg : g < w.heap.size) (hx : ∀ x ∈ xs, U64 x) (hn : xs.length = n) (hl : n ≤ 64) :
    Calls Try.prog 37 #[.slice (some ⟨g, 0, none⟩) n c] w fun e w' => ∃ b, e = .returned (.slice (some ⟨b, 0, none⟩) n n) ∧ w.heap.size ≤ b ∧ Row w' b 60 (regCells xs) ∧ Below w.heap.size w w' := by
  subst hn
  exact regsof_any h hg hx (by omega)
set_option maxHeartbeats 1600000
set_option maxRecDepth 100000
/-- what 'collected' leaves that ends the scan -/
def CollectedTo (w : World) (bp bk g n cw : Nat) (t : Int) (a : Option Addr) (m ca c : Nat) (xs : List Int) (cl : Bool) (e : Ending) (w' : World) : Prop :=
  ∃ b, e = .returned (.tuple #[]) ∧ w.heap.size ≤ b ∧ Row w' bp 82 (scanL bk t .nilFunc (.slice a m ca) (.slice (some ⟨g, 0, none⟩) n cw) ((c : Int) + 1) (.slice (some ⟨b, 0, none⟩) n n) cl ((c : Int) + 1)) ∧ Row w' b 60 (regCells xs) ∧ Part [bp] w w'
/-- a collect that is clean, or the last one: the scan ends -/
theorem collected_end {w : World} {bp bk g cw n : Nat} {t : Int} {nx : Value} {a : Option Addr} {m ca c : Nat} {xs la : List Int} {cl : Bool} (hp : Row w bp 82 (scanL bk t nx (.slice a m ca) (.slice (some ⟨g, 0, none⟩) n cw) (c : Int) nilS false 0))
    (hx : Lies w g xs) (hg : g < w.heap.size) (hxn : xs.length = n) (hm : la.length = m) (hla : AheadL w bp a la) (hn : n ≤ 64) (hu : ∀ x ∈ xs, U64 x) (hc : c ≤ 1000000) (hgp : g ≠ bp)
    (hcl : decide (xs = la) = cl) (he : cl = false → ((c : Int) + 1 == t) = true) (hn0 : 0 < n) :
    Calls Try.prog 49 #[.pointer (some ⟨bp, 0, none⟩)] w (CollectedTo w bp bk g n cw t a m ca c xs cl) := by
  obtain ⟨c0, c1, c2, c3, c4, c5, c6, c7, c8, c9, c10, c11, c12⟩ := pendP_cells hp
  have hf := hp.free
  have hlt := hp.lt
  have HP1 := Lib.hid (show Row (w.setCell ⟨bp, 9, none⟩ (.int .i64 ((c : Int) + 1))) bp 82 (scanL bk t nx (.slice a m ca) (.slice (some ⟨g, 0, none⟩) n cw) ((c : Int) + 1) nilS false 0) from Row.of_eq (hp.set 9 _) (by simp [scanL, pendP]))
  have HE1 := Lib.hid ((Part.refl [bp] w).set (p := ⟨bp, 9, none⟩) (by simp) (.int .i64 ((c : Int) + 1)))
  have HX1 := Lib.hid (hx.part HE1.out hg (by simpa using hgp))
  have HA1 : Hid (AheadL (w.setCell ⟨bp, 9, none⟩ (.int .i64 ((c : Int) + 1))) bp a la) := Lib.hid (fun h => by
    obtain ⟨ga, e, h1, h2, h3⟩ := hla h
    exact ⟨ga, e, h1.part HE1.out h2 (by simpa using h3), by simpa using h2, h3⟩)
  have HS1 : Hid (w.heap.size ≤ (w.setCell ⟨bp, 9, none⟩ (.int .i64 ((c : Int) + 1))).heap.size) := Lib.hid (by simp)
  have HG1 : Hid (g < (w.setCell ⟨bp, 9, none⟩ (.int .i64 ((c : Int) + 1))).heap.size) := Lib.hid (by simpa using hg)
  have HU := Lib.hid hu
  have HXN := Lib.hid hxn
  have HMM := Lib.hid hm
  have HCL := Lib.hid hcl
  have HEE := Lib.hid he
  have HN0 := Lib.hid hn0
  clear hp hx hu hxn hm hla hg hcl he hn0 c0 c1 c2 c3 c4 c5 c6 c7 c8 c10 c11 c12
  go_enter Try.func49, Try.ntmps49
  go_upto_region 1 with fail
  clear c9 hf hlt
  generalize w.setCell ⟨bp, 9, none⟩ (.int .i64 ((c : Int) + 1)) = wz at *
  obtain ⟨p0, p1, p2, p3, p4, p5, p6, p7, p8, p9, p10, p11, p12⟩ := pendP_cells HP1.out
  have plt := HP1.out.lt
  cases cl
  · have hq := HEE.out rfl
    go_quiet ((go_at_call 43; exact Calls.quiet_of (equal_is HCL.out (HX1.out.draws _) HXN.out HMM.out HA1.out hn HN0.out)))
    go_wp2
    go_quiet (fail)
    go_wp2
    go_region_with (first
      | (go_at_call 37; refine (regsof_n (HX1.out.draws _).drew HG1.out HU.out HXN.out hn).mono ?_; rintro e w3 ⟨b, rfl, hb, hr, hb3⟩; have HB3 := Lib.hid (Below.undrew2 hb3); have HL3 : Hid (wz.heap.size ≤ b) := Lib.hid hb; have HR3 := Lib.hid hr; have HQ3 := Lib.hid (HP1.out.below (Below.undrew2 hb3) HP1.out.lt); have q9 : w3.cell? ⟨bp, 9, none⟩ = some (.int .i64 ((c : Int) + 1)) := HQ3.out.cell 9; have qlt := HQ3.out.lt; clear hb hr hb3)
      | (go_at_call 47; refine (pend_any HQ3.out).mono ?_; rintro e w4 ⟨rfl, hR4, hP4⟩; have HR4 := Lib.hid hR4; have HP4 := Lib.hid hP4; clear hR4 hP4))
    all_goals
      go_wp2_with fail
      go_end0
      have hl0 := HL3.out
      have hl1 := HS1.out
      have hl2 := HP1.out.lt
      exact ⟨b, rfl, by omega, HR4.out, HR3.out.part HP4.out (by simp; omega), HE1.out.then_ ((Part.of_below HB3.out (Nat.le_refl _) [bp]).then_ HP4.out)⟩
  · go_quiet ((go_at_call 43; exact Calls.quiet_of (equal_is HCL.out (HX1.out.draws _) HXN.out HMM.out HA1.out hn HN0.out)))
    go_wp2
    go_quiet (fail)
    go_wp2
    go_region_with (first
      | (go_at_call 37; refine (regsof_n (HX1.out.draws _).drew HG1.out HU.out HXN.out hn).mono ?_; rintro e w3 ⟨b, rfl, hb, hr, hb3⟩; have HB3 := Lib.hid (Below.undrew2 hb3); have HL3 : Hid (wz.heap.size ≤ b) := Lib.hid hb; have HR3 := Lib.hid hr; have HQ3 := Lib.hid (HP1.out.below (Below.undrew2 hb3) HP1.out.lt); have q9 : w3.cell? ⟨bp, 9, none⟩ = some (.int .i64 ((c : Int) + 1)) := HQ3.out.cell 9; have qlt := HQ3.out.lt; clear hb hr hb3)
      | (go_at_call 47; refine (pend_any HQ3.out).mono ?_; rintro e w4 ⟨rfl, hR4, hP4⟩; have HR4 := Lib.hid hR4; have HP4 := Lib.hid hP4; clear hR4 hP4))
    all_goals
      go_wp2_with fail
      go_end0
      have hl0 := HL3.out
      have hl1 := HS1.out
      have hl2 := HP1.out.lt
      exact ⟨b, rfl, by omega, HR4.out, HR3.out.part HP4.out (by simp; omega), HE1.out.then_ ((Part.of_below HB3.out (Nat.le_refl _) [bp]).then_ HP4.out)⟩
end Go.Proofs.Ytdadgppbpomdoaa
