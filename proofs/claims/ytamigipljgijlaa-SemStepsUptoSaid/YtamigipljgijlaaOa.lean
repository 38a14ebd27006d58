/- THE WALKS of the document's semaphore: steps by kind and place. -/
import Derived.Test.YtamigipljgijlaaNz
namespace Go.Proofs.Ytamigipljgijlaa
open Go Go.RowKit
set_option maxRecDepth 100000
set_option maxHeartbeats 6400000
theorem rdo_alone {pl k : Int} {m : Nat} {D G : Nat → Int} {O : Nat → OpS} (h : Alone pl k m D G O) (hk : k = 1 ∨ k = 2 ∨ k = 3 ∨ k = 4) (w : World) :
    Calls Try.prog 27 #[.agg #[.int .u64 pl, .int .u64 (D 0), .int .u64 (G 0)], .int .u8 k] w fun e w' => e = .returned (.tuple #[.agg #[.int .u64 pl, .int .u64 (D m), .int .u64 (G m)], .int .u64 (O m).ans, .int .i64 (O m).why]) ∧ Below w.heap.size w w' := by
  have H := Lib.hid h
  have HK := Lib.hid hk
  have HB := Lib.hid (doR_begin w pl k (D 0) (G 0))
  have HI0 : Hid (InvS (O 0) ⟨0, 0, 0, false, 0, 0⟩) := Lib.hid (by rw [h.new_]; exact InvS.new k)
  clear h hk
  go_enter Try.func27, Try.ntmps27
  go_wp2
  go_loopw [] (fun wr => ∃ i u, i ≤ m ∧ InvS (O i) u ∧ DoR w w.heap.size (w.heap.size + 1) (w.heap.size + 1 + 1) pl k (D i) (G i) u wr) (fun wr => muC (w.heap.size + 1 + 1) wr)
  case atStart => exact ⟨0, _, Nat.zero_le _, HI0.out, HB.out⟩
  case round =>
    clear HB HI0
    obtain ⟨i, ⟨ap, fi, la, en, su, wy⟩, him, hinv, hR⟩ := hrel
    have HR := Lib.hid hR
    have HI := Lib.hid hinv
    have HMU := Lib.hid (muC_row hR.p)
    have hkk := H.out.kind i him
    have HOK := Lib.hid (H.out.ok HK.out i him)
    obtain ⟨s0, s1, s2⟩ := hR.r.three3
    obtain ⟨z0, z1, z2⟩ := hR.z.three3
    obtain ⟨p0, p1, p2, p3, p4, p5, p6⟩ := Row.seven (show Row wr _ 40 [.int .u8 k, .int .i64 ap, .int .u64 fi, .int .u64 la, .bool en, .int .u64 su, .int .i64 wy] from hR.p)
    have sf := hR.r.free
    have zf := hR.z.free
    have pf := hR.p.free
    have l0 := hR.r.lt
    have l4 := hR.z.lt
    have l7 := hR.p.lt
    by_cases hi : i < m
    · have hph := H.out.live i hi
      have hen : en = false := by
        rcases hinv with ⟨a, _⟩ | ⟨_, b, _⟩
        · have := H.out.few; omega
        · exact b
      have hat : ap = (i : Int) := by
        rcases hinv with ⟨a, _⟩ | ⟨_, _, _, _, _, b, _⟩
        · have := H.out.few; omega
        · rw [← hph]; exact b
      subst hen hat
      obtain ⟨n1, n2, n3⟩ := H.out.nx i hi
      have HS := Lib.hid (dsstep_at (u := ⟨(i : Int), fi, la, false, su, wy⟩) HOK.out HI.out n1 n2 n3)
      have HS2 : Hid (∀ w : World, Calls Try.prog 11 #[.agg #[.int .u64 pl, .int .u64 (D i), .int .u64 (G i)], .agg #[.int .u8 k, .int .i64 (i : Int), .int .u64 fi, .int .u64 la, .bool false, .int .u64 su, .int .i64 wy]] w fun e w' => ∃ ap' fi' la' su' wy' x0 x1 x2 x3 x4, InvS (O (i + 1)) ⟨ap', fi', la', decide ((O (i + 1)).ph = 9), su', wy'⟩ ∧ e = .returned (.tuple #[.agg #[.int .u64 pl, .int .u64 (D (i + 1)), .int .u64 (G (i + 1))], .agg #[.int .u8 k, .int .i64 ap', .int .u64 fi', .int .u64 la', .bool (decide ((O (i + 1)).ph = 9)), .int .u64 su', .int .i64 wy'], .agg #[.int .u8 x0, .int .i64 x1, .int .u64 x2, .int .u64 x3, .bool x4]]) ∧ Below w.heap.size w w') := Lib.hid (fun w => by
        have := HS.out w
        rw [hkk] at this
        refine this.mono ?_
        rintro e w' ⟨a1, a2, a3, a4, a5, x0, x1, x2, x3, x4, c1, _, c2, c3⟩
        exact ⟨a1, a2, a3, a4, a5, x0, x1, x2, x3, x4, c1, c2, c3⟩)
      have HM : Hid (i ≤ 2) := Lib.hid (by have := H.out.few; omega)
      clear HS HI HOK hinv hR hkk hph n1 n2 n3 z0 z1 z2
      go_wp2_with (go_at_call 11; refine (HS2.out _).mono ?_; rintro e w5 ⟨ap', fi', la', su', wy', x0, x1, x2, x3, x4, hinv', rfl, hb5⟩; have HI5 := Lib.hid hinv'; have HR5 := Lib.hid (HR.out.on hb5); obtain ⟨q0, q1, q2⟩ := HR5.out.r.three3; obtain ⟨r0, r1, r2, r3, r4, r5, r6⟩ := Row.seven (show Row w5 _ 40 [.int .u8 k, .int .i64 (i : Int), .int .u64 fi, .int .u64 la, .bool false, .int .u64 su, .int .i64 wy] from HR5.out.p); have qf := HR5.out.r.free; have rf := HR5.out.p.free; have m0 := HR5.out.r.lt; have m7 := HR5.out.p.lt; clear hinv' hb5)
      go_roundw
      case rel => exact ⟨i + 1, ⟨ap', fi', la', decide ((O (i + 1)).ph = 9), su', wy'⟩, hi, HI5.out, HR5.out.next⟩
      case measure =>
        have hn : DoR w w.heap.size (w.heap.size + 1) (w.heap.size + 1 + 1) pl k (D (i + 1)) (G (i + 1)) ⟨ap', fi', la', decide ((O (i + 1)).ph = 9), su', wy'⟩ (doSet w5 w.heap.size (w.heap.size + 1 + 1) pl k (D (i + 1)) (G (i + 1)) ⟨ap', fi', la', decide ((O (i + 1)).ph = 9), su', wy'⟩) := HR5.out.next
        have e1 := muC_row hn.p
        unfold doSet at e1
        have e0 := HMU.out
        have hi5 := HI5.out
        have h2 := HM.out
        show muC _ _ < muC _ _
        rw [e0]
        refine Nat.lt_of_le_of_lt (Nat.le_of_eq e1) ?_
        dsimp only
        rcases hi5 with ⟨a, b, _⟩ | ⟨a, b, _, _, _, c, _⟩
        · dsimp only at b
          rw [if_pos b]
          simp
          omega
        · dsimp only at b c
          have hlt : i + 1 < m := by
            by_cases e : i + 1 = m
            · rw [e] at a; exact absurd H.out.last a
            · omega
          have := H.out.live (i + 1) hlt
          rw [b, c, this]
          simp
          omega
    · obtain rfl : m = i := by omega
      have hen : en = true := by
        rcases hinv with ⟨_, b, _⟩ | ⟨a, _⟩
        · exact b
        · exact absurd H.out.last a
      subst hen
      have HA : Hid (∀ w : World, Calls Try.prog 14 #[.agg #[.int .u8 k, .int .i64 ap, .int .u64 fi, .int .u64 la, .bool true, .int .u64 su, .int .i64 wy]] w fun e w' => e = .returned (.tuple #[.int .u64 (O m).ans, .int .i64 (O m).why]) ∧ Below w.heap.size w w') := Lib.hid (fun w => by
        have := ranswer_op HI.out w
        rw [hkk] at this
        exact this)
      clear HI HOK hinv hR hkk
      go_wp2_with (go_at_call 14; refine (HA.out _).mono ?_; rintro e w5 ⟨rfl, hb5⟩; have HR5 := Lib.hid (HR.out.on hb5); obtain ⟨q0, q1, q2⟩ := HR5.out.r.three3; obtain ⟨r0, r1, r2⟩ := HR5.out.z.three3; have rf := HR5.out.z.free; have m0 := HR5.out.r.lt; have m4 := HR5.out.z.lt; clear hb5)
      refine bodyPost_ret (v := .tuple #[.agg #[.int .u64 pl, .int .u64 (D m), .int .u64 (G m)], .int .u64 (O m).ans, .int .i64 (O m).why]) (by simp [results, Try.results27, go_sem, r0, r1, r2]) rfl ⟨rfl, ?_⟩
      repeat (first | (with_reducible exact HR5.out.low) | (with_reducible refine Below.drew ?_) | (with_reducible refine Below.alloc ?_ (by first | (simp; done) | (simp; omega) | omega) _) | (with_reducible refine Below.setCell ?_ (by first | (simp; done) | (simp; omega) | omega) _))
end Go.Proofs.Ytamigipljgijlaa
