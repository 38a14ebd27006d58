/- THE WALK of the law 'SnapSteps'. -/
import Derived.Test.YtdadgppbpomdoaaQl
import Derived.Deep.RegionHeld3
import Derived.Deep.AppendLies
import Derived.Deep.Cut
import Derived.Deep.CutRange
namespace Go.Proofs.Ytdadgppbpomdoaa
open Go Go.RowKit

/-- five stores -/
def didSet (w : World) (b : Nat) (d0 d1 d2 d3 : Int) (d4 : Bool) : World := ((((w.setCell ⟨b, 0, none⟩ (.int .u8 d0)).setCell ⟨b, 1, none⟩ (.int .i64 d1)).setCell ⟨b, 2, none⟩ (.int .u64 d2)).setCell ⟨b, 3, none⟩ (.int .u64 d3)).setCell ⟨b, 4, none⟩ (.bool d4)
theorem didSet_part (w : World) (b : Nat) (d0 d1 d2 d3 : Int) (d4 : Bool) : Part [b] w (didSet w b d0 d1 d2 d3 d4) := by
  unfold didSet
  repeat (first | (with_reducible exact Part.refl _ _) | refine Part.set ?_ (by simp) _)
theorem didSet_row {w : World} {b : Nat} {t : TypeId} {v0 v1 v2 v3 v4 : Value} (h : Row w b t [v0, v1, v2, v3, v4]) (d0 d1 d2 d3 : Int) (d4 : Bool) : Row (didSet w b d0 d1 d2 d3 d4) b t [.int .u8 d0, .int .i64 d1, .int .u64 d2, .int .u64 d3, .bool d4] :=
  ((((h.set 0 _).set 1 _).set 2 _).set 3 _).set 4 _
section
variable {W wr w1 w2 w3 : World} {n br bk bw gp cp gu cu : Nat} {wc wd : List Int} {oc od : List OpQ} {bs X : List Nat} {Fs : List (List Nat)} {xs : List DU} {vp vu : Value} {s s' : Option Addr × Nat × Nat}
theorem AllQ.at_ {q b : Nat} {o : OpQ} (h : AllQ W n br bk bw wc oc bs Fs wd oc xs vp vu s X wr) (ho : oc[q]? = some o) (hb : bs[q]? = some b) : ∃ F x, Fs[q]? = some F ∧ xs[q]? = some x ∧ PendQ wr W.heap.size bk n b o F ∧ OkQ n o ∧ DocQ W X wr o x := by
  obtain ⟨o1, b1, F, x, _, _, _, _, h1, h2, h3, h4, h5, h6, h7, _⟩ := h.get (lt_of_get hb)
  rw [ho] at h1
  cases h1
  rw [hb] at h2
  cases h2
  exact ⟨F, x, h3, h4, h5, h6, h7⟩
theorem AllQ.places {q b : Nat} (h : AllQ W n br bk bw wc oc bs Fs wd od xs (.slice (some ⟨gp, 0, none⟩) bs.length cp) (.slice (some ⟨gu, 0, none⟩) bs.length cu) s X wr) (hb : bs[q]? = some b) : wr.cell? ⟨gp, q, none⟩ = some (.pointer (some ⟨b, 0, none⟩)) ∧ gp < wr.heap.size ∧ gu < wr.heap.size :=
  ⟨own_cell h.ps (ptrs_get hb), own_block h.ps gp rfl, own_block h.un gu rfl⟩
theorem AllQ.und {q : Nat} {x : DU} (h : AllQ W n br bk bw wc oc bs Fs wd od xs (.slice (some ⟨gp, 0, none⟩) bs.length cp) (.slice (some ⟨gu, 0, none⟩) bs.length cu) s X wr) (hx : xs[q]? = some x) : wr.cell? ⟨gu, q * 13 + 9, none⟩ = some (.bool x.en) :=
  (un_cells h.un hx).2.2.2.2.2.2.2.2.2.1
theorem AllQ.phase {q : Nat} {o : OpQ} (h : AllQ W n br bk bw wc oc bs Fs wd od xs vp vu s X wr) (ho : oc[q]? = some o) : o.ph ≤ 2 := by
  obtain ⟨o1, b1, F, h1, h2, h3, h4, h5⟩ := h.pends.get (q := q) (by rw [h.pends.len]; exact lt_of_get ho)
  rw [ho] at h1
  cases h1
  exact h4.phase
theorem AllQ.own_lt (h : AllQ W n br bk bw wc oc bs Fs wd od xs vp vu s X wr) : ∀ F ∈ Fs, ∀ q ∈ F, q < wr.heap.size := fun _ hF _ hq => (h.pends.lt hF hq).2
/-- a box, none of the operations' -/
structure BoxQ (W : World) (Fs : List (List Nat)) (b : Nat) (t : TypeId) (l : List Value) (w : World) : Prop where
  row : Row w b t l
  lo : W.heap.size ≤ b
  off : ∀ F ∈ Fs, b ∉ F
theorem BoxQ.on {b : Nat} {t : TypeId} {l : List Value} (h : BoxQ W Fs b t l w1) (hb : Below w1.heap.size w1 w2) : BoxQ W Fs b t l w2 := ⟨h.row.below hb h.row.lt, h.lo, h.off⟩
theorem BoxQ.new {t : TypeId} (h : AllQ W n br bk bw wc oc bs Fs wd od xs vp vu s X w1) (l : List Value) : BoxQ W Fs w1.heap.size t l (w1.alloc (.cells l.toArray t)) := ⟨Row.new w1 t l, h.st.low.size, fun F hF hm => Nat.lt_irrefl _ (h.own_lt F hF _ hm)⟩
theorem BoxQ.part {b : Nat} {t : TypeId} {l : List Value} {S : List Nat} (h : BoxQ W Fs b t l w1) (hP : Part S w1 w2) (hS : b ∉ S) : BoxQ W Fs b t l w2 := ⟨h.row.part hP hS, h.lo, h.off⟩
theorem didset_all {b : Nat} {v0 v1 v2 v3 v4 : Value} {d0 d1 d2 d3 : Int} {d4 : Bool} (h : AllQ W n br bk bw wc oc bs Fs wd od xs vp vu s X w1) (hB : BoxQ W Fs b 48 [v0, v1, v2, v3, v4] w1) :
    AllQ W n br bk bw wc oc bs Fs wd od xs vp vu s X (didSet w1 b d0 d1 d2 d3 d4) ∧ BoxQ W Fs b 48 [.int .u8 d0, .int .i64 d1, .int .u64 d2, .int .u64 d3, .bool d4] (didSet w1 b d0 d1 d2 d3 d4) :=
  ⟨h.off hB.row hB.off hB.lo (didSet_part w1 b d0 d1 d2 d3 d4) (by decide) (by decide) (by decide) (by decide) (by decide) (by decide) (by decide), ⟨didSet_row hB.row d0 d1 d2 d3 d4, hB.lo, hB.off⟩⟩
/-- behind the document's step: its record and what it did are stored -/
theorem next_all {q b18 b20 : Nat} {o : OpQ} {x x' : DU} {Y : List Nat} {l18 : List Value} {v0 v1 v2 v3 v4 : Value} {d0 d1 d2 d3 : Int} {d4 : Bool} (h : AllQ W n br bk bw wc oc bs Fs wd od xs vp (.slice (some ⟨gu, 0, none⟩) bs.length cu) s X w2) (ho : od[q]? = some o) (hx : xs[q]? = some x)
    (hb : Below w2.heap.size w2 w3) (hY : ∀ y ∈ Y, w2.heap.size ≤ y ∧ y < w3.heap.size) (hL : ListU W (Y ++ X) w3 s' (stepQW wd o)) (hD : DocQ W (Y ++ X) w3 (stepQ wd o) x') (hok : OkQ n o) (hwd : wd.length = n) (hu : ∀ y ∈ wd, U64 y)
    (h18 : BoxQ W Fs b18 48 l18 w2) (h20 : BoxQ W Fs b20 48 [v0, v1, v2, v3, v4] w2) (hne : b18 ≠ b20) :
    AllQ W n br bk bw wc oc bs Fs (stepQW wd o) (od.set q (stepQ wd o)) (xs.set q x') vp (.slice (some ⟨gu, 0, none⟩) bs.length cu) s' (Y ++ X) (didSet (undSet w3 gu (q * 13) x') b20 d0 d1 d2 d3 d4) ∧ BoxQ W Fs b18 48 l18 (didSet (undSet w3 gu (q * 13) x') b20 d0 d1 d2 d3 d4) ∧ BoxQ W Fs b20 48 [.int .u8 d0, .int .i64 d1, .int .u64 d2, .int .u64 d3, .bool d4] (didSet (undSet w3 gu (q * 13) x') b20 d0 d1 d2 d3 d4) := by
  have hP := undSet_part w3 gu (q * 13) x'
  have h3 := h.on hb
  have g18 : b18 ≠ gu := fun e => own_off h3.un (h18.on hb).row (by decide) gu rfl e.symm
  have g20 : b20 ≠ gu := fun e => own_off h3.un (h20.on hb).row (by decide) gu rfl e.symm
  have hA := h.next ho hx hb hY hL hD hok hwd hu
  have b18' := (h18.on hb).part hP (by simpa using g18)
  have b20' := (h20.on hb).part hP (by simpa using g20)
  obtain ⟨a1, a2⟩ := didset_all (d0 := d0) (d1 := d1) (d2 := d2) (d3 := d3) (d4 := d4) hA b20'
  exact ⟨a1, b18'.part (didSet_part _ b20 d0 d1 d2 d3 d4) (by simpa using hne), a2⟩
/-- the answer that the law has by the document's record -/
structure AnsQ (W : World) (X : List Nat) (o : OpQ) (la : Bool) (r : Option Addr × Nat × Nat) (cl : Bool) (co : Int) (w : World) : Prop where
  yes : la = true → RegsU W X w r o.xs ∧ cl = o.cl ∧ co = (if o.k = 3 then (o.c : Int) else 0)
  no : la = false → r = nilU ∧ cl = false ∧ co = 0
theorem AnsQ.on {o : OpQ} {la : Bool} {r : Option Addr × Nat × Nat} {cl : Bool} {co : Int} (h : AnsQ W X o la r cl co w1) (hb : Below w1.heap.size w1 w2) : AnsQ W X o la r cl co w2 := ⟨fun e => ⟨(h.yes e).1.on hb, (h.yes e).2⟩, h.no⟩
end
/-- the list of registers as the law has it -/
theorem RegsU.liesA {W w : World} {X : List Nat} {A : Option Addr} {m c : Nat} {xs : List Int} (h : RegsU W X w (A, m, c) xs) : LiesR w A xs ∧ ∀ g, A = some ⟨g, 0, none⟩ → g < w.heap.size := by
  obtain ⟨h1, h2, _⟩ := h
  simp only at h2
  subst h2
  exact ⟨own_liesR h1, fun g e => by subst e; exact own_lt h1 g rfl⟩
theorem did_five (ws : List Int) (o : OpQ) : ∃ d0 d1 d2 d3 d4, didQ ws o = (d0, d1, d2, d3, d4) := ⟨_, _, _, _, _, rfl⟩
set_option maxRecDepth 100000
theorem ssteps_no {n : Int} (hn : n < 1 ∨ 64 < n) {A B : Option Addr} {len cap len' cap' : Nat} (W : World) :
    Calls Try.prog 3 #[.int .i64 n, .slice A len cap, .slice B len' cap'] W fun e w' => e = .returned (.bool true) ∧ Below W.heap.size W w' := by
  rcases hn with hn | hn
  · have h1 : decide (n < 1) = true := by simpa using hn
    have HN := Lib.hid hn
    clear hn
    go_enter Try.func3, Try.ntmps3
    go_wp2_with (first
      | (go_at_call 10; refine (rnew_no (.inl HN.out)).mono ?_; rintro e w' ⟨rfl, rfl⟩)
      | (go_at_call 11; refine (rbegins_any _).mono ?_; rintro e w0 ⟨rfl, hb⟩; have HB0 := Lib.hid hb; clear hb))
    go_ret
    exact ⟨rfl, HB0.out⟩
  · have h1 : decide (n < 1) = false := by simp; omega
    have h2 : decide (64 < n) = true := by simpa using hn
    have HN := Lib.hid hn
    clear hn
    go_enter Try.func3, Try.ntmps3
    go_wp2_with (first
      | (go_at_call 10; refine (rnew_no (.inr HN.out)).mono ?_; rintro e w' ⟨rfl, rfl⟩)
      | (go_at_call 11; refine (rbegins_any _).mono ?_; rintro e w0 ⟨rfl, hb⟩; have HB0 := Lib.hid hb; clear hb))
    go_ret
    exact ⟨rfl, HB0.out⟩
set_option maxHeartbeats 25600000
theorem ssteps_yes {n : Nat} (h1 : 1 ≤ n) (h64 : n ≤ 64) {A B : Option Addr} {cap cap' : Nat} {ops : List (Int × Int × Int × Int)} {ks : List Int} (W : World) (hE : Ext4 .u8 .i64 .u32 .i64 W A ops) (hv : ∀ op ∈ ops, U32 op.2.2.1) (hr : ops.length ≤ 1048576) (hX : Ext .i64 W B ks) (hr2 : ks.length ≤ 1048576) :
    Calls Try.prog 3 #[.int .i64 (n : Int), .slice A ops.length cap, .slice B ks.length cap'] W fun e w' => e = .returned (.bool true) ∧ Below W.heap.size W w' := by
  obtain ⟨iU, hiU, hU0, hU1, hU2⟩ := info_parts infoU64
  obtain ⟨ip, hip, hp0, hp1, hp2⟩ := info_parts infoPP
  obtain ⟨iu, hiu, hu0, hu1, hu2⟩ := info_parts infoUN
  have HE := Lib.hid hE
  have HV := Lib.hid hv
  have HXS := Lib.hid hX
  have hbu : iU.bytes * n ≤ 281474976710656 := by rw [hU2]; omega
  have hmu : n ≤ maxLen := by unfold maxLen; omega
  have hnb1 : decide ((n : Int) < 1) = false := by simp; omega
  have hnb2 : decide (64 < (n : Int)) = false := by simp; omega
  clear hE hv hX
  go_enter Try.func3, Try.ntmps3
  go_wp2_with (go_at_call 10; refine (rnew_yes _ h1 h64).mono ?_; rintro e w1 ⟨br, bk, bw, rfl, _, _, hbw, hR, hb⟩; have HS1 := Lib.hid (show SnSt W n br bk bw (List.replicate n 0) w1 from ⟨hR, by simp, hbw, hb⟩); clear hbw hR hb)
  go_loopw [9, 10, 11] (fun vu vp i wr => ∃ j : Nat, j ≤ ops.length ∧ i = .int .i64 j ∧ ∃ bs Fs xs, AllQ W n br bk bw (List.replicate n 0) (pickQ n (ops.take j)) bs Fs [] (pickQ n (ops.take j)) xs vp vu nilU [] wr) (fun _ _ i _ => ops.length - (intOf i).toNat)
  case atStart => exact ⟨0, Nat.zero_le _, rfl, [], [], [], AllQ.nil HS1.out⟩
  case round =>
    obtain ⟨j, hj, rfl, bs, Fs, xs, hA⟩ := hrel
    have HA := Lib.hid hA
    clear hA
    by_cases hlt : j < ops.length
    · obtain ⟨op, hop⟩ : ∃ op, ops[j]? = some op := ⟨ops[j], List.getElem?_eq_getElem hlt⟩
      obtain ⟨b, o, rfl, hbl, e0, e1, e2, e3⟩ := HE.out j _ hop
      have hlt2 : (j : Int) < (ops.length : Int) := by omega
      have HB := Lib.hid hbl
      have f0 := (HA.out.st.low.cell (p := ⟨b, o + j * 4, none⟩) hbl).trans e0
      have f1 := (HA.out.st.low.cell (p := ⟨b, o + j * 4 + 1, none⟩) hbl).trans e1
      have f2 := (HA.out.st.low.cell (p := ⟨b, o + j * 4 + 2, none⟩) hbl).trans e2
      have f3 := (HA.out.st.low.cell (p := ⟨b, o + j * 4 + 3, none⟩) hbl).trans e3
      have HT := Lib.hid (pickQ_take n ops hop)
      have E0 := Lib.hid e0
      have E1 := Lib.hid e1
      have E2 := Lib.hid e2
      have E3 := Lib.hid e3
      have HU := Lib.hid (HV.out op (List.mem_of_getElem? hop))
      have HLS := Lib.hid (HA.out.pends.len)
      have HPL := Lib.hid (pickQ_length n (ops.take j))
      have HLEN := Lib.hid HA.out.st.len
      have hj4 : j * 4 ≤ 52776558132480 := by omega
      clear hop hbl e0 e1 e2 e3
      cases hb : rightS n op.1 op.2.1 op.2.2.1 op.2.2.2 with
      | false =>
        have HR : Hid (rightS (List.replicate n (0 : Int)).length op.1 op.2.1 op.2.2.1 op.2.2.2 = false) := Lib.hid (by rw [List.length_replicate]; exact hb)
        have HRn := Lib.hid hb
        clear hb
        go_wp2_with (first
          | (go_at_call 12; refine (pstart_no HA.out.st.regs HR.out).mono ?_; rintro e w4 ⟨rfl, hb4⟩; have HA4 := Lib.hid (HA.out.on hb4); have g0 := (HA4.out.st.low.cell (p := ⟨b, o + j * 4, none⟩) HB.out).trans E0.out; have g1 := (HA4.out.st.low.cell (p := ⟨b, o + j * 4 + 1, none⟩) HB.out).trans E1.out; have g2 := (HA4.out.st.low.cell (p := ⟨b, o + j * 4 + 2, none⟩) HB.out).trans E2.out; have g3 := (HA4.out.st.low.cell (p := ⟨b, o + j * 4 + 3, none⟩) HB.out).trans E3.out; clear hb4)
          | (go_at_call 13; refine (dright_at HRn.out _).mono ?_; rintro e w5 ⟨rfl, hb5⟩; have HA5 := Lib.hid (HA4.out.on hb5); clear hb5))
        go_roundw
        case rel => exact ⟨j + 1, by omega, by go_num, bs, Fs, xs, by rw [HT.out, HRn.out, if_neg (by simp), List.append_nil]; exact HA5.out⟩
        case measure => simp [intOf]; omega
      | true =>
        have HRn := Lib.hid hb
        clear hb
        have HLL : Hid (bs.length + 1 ≤ ops.length) := Lib.hid (by have h1 := HLS.out; have h2 := HPL.out; rw [List.length_take] at h2; omega)
        have H3 : Hid (bs.length + 1 ≤ maxLen) := Lib.hid (by have := HLL.out; unfold maxLen; omega)
        have H4 : Hid ((bs.length + 1) * 8 ≤ 140737488355328) := Lib.hid (by have := HLL.out; omega)
        have H6 : Hid ((bs.length + 1) * 152 ≤ 140737488355328) := Lib.hid (by have := HLL.out; omega)
        go_wp2_with (first
          | (go_at_call 12; refine (pstart_op (lo := W.heap.size) HA.out.st.regs HLEN.out HA.out.st.low.size HRn.out).mono ?_; rintro e w4 ⟨bp, rfl, hn4, hq4, hb4⟩; have HB4 := Lib.hid hb4; have HN4 := Lib.hid hn4; have HQ4 := Lib.hid hq4; have HA4 := Lib.hid (HA.out.on hb4); have g0 := (HA4.out.st.low.cell (p := ⟨b, o + j * 4, none⟩) HB.out).trans E0.out; have g1 := (HA4.out.st.low.cell (p := ⟨b, o + j * 4 + 1, none⟩) HB.out).trans E1.out; have g2 := (HA4.out.st.low.cell (p := ⟨b, o + j * 4 + 2, none⟩) HB.out).trans E2.out; have g3 := (HA4.out.st.low.cell (p := ⟨b, o + j * 4 + 3, none⟩) HB.out).trans E3.out; clear hb4 hn4 hq4)
          | (go_at_call 13; refine (dright_at HRn.out _).mono ?_; rintro e w5 ⟨rfl, hb5⟩; have HB5 := Lib.hid (HB4.out.trans (hb5.mono HB4.out.size)); have HQ5 := Lib.hid (HQ4.out.part (Part.of_below hb5 (Nat.le_refl _) []) (by simp)); have HA5 := Lib.hid (HA4.out.on hb5); have q0 := (HA5.out.st.low.cell (p := ⟨b, o + j * 4, none⟩) HB.out).trans E0.out; have q1 := (HA5.out.st.low.cell (p := ⟨b, o + j * 4 + 1, none⟩) HB.out).trans E1.out; have q2 := (HA5.out.st.low.cell (p := ⟨b, o + j * 4 + 2, none⟩) HB.out).trans E2.out; have q3 := (HA5.out.st.low.cell (p := ⟨b, o + j * 4 + 3, none⟩) HB.out).trans E3.out; have H5 : Hid (W.heap.size ≤ (w5.alloc (.cells #[.int .u8 op.1, .int .i64 op.2.1, .int .u32 op.2.2.1, .int .i64 op.2.2.2, .bool false, .int .u64 0, .int .i64 0, .slice none 0 0, .slice none 0 0, .bool false, .slice none 0 0, .bool false, .int .i64 0] 45)).heap.size) := Lib.hid (by have := HA5.out.st.low.size; simp; omega); clear hb5)
          | (at_builtin; refine wpList_append_lies _ rfl _ _ 29 rfl W.heap.size 45 iu (.agg #[.int .u8 0, .int .i64 0, .int .u32 0, .int .i64 0, .bool false, .int .u64 0, .int .i64 0, .slice none 0 0, .slice none 0 0, .bool false, .slice none 0 0, .bool false, .int .i64 0]) 13 152 Try.underlying29 hiu hu0 hu1 hu2 rfl (by decide) _ _ _ rfl (HA5.out.un.alloc _) ⟨w5.heap.size, 0, none⟩ 1 1 [.int .u8 op.1, .int .i64 op.2.1, .int .u32 op.2.2.1, .int .i64 op.2.2.2, .bool false, .int .u64 0, .int .i64 0, .slice none 0 0, .slice none 0 0, .bool false, .slice none 0 0, .bool false, .int .i64 0] rfl rfl (new_cells _ _ _) (du_one (DU.mk op.1 op.2.1 op.2.2.1 op.2.2.2 false 0 0 nilU nilU false nilU false 0)) (by omega) H3.out H6.out H5.out _ rfl ?_; intro g6 c6 w6 hown6 hgr6 hat6 _; have HO6 := Lib.hid hown6; have HG6 := Lib.hid hgr6; have HAT6 := Lib.hid hat6; have PS6 := Lib.hid ((HA5.out.ps.alloc _).kept hgr6 (own_apart HA5.out.ps HA5.out.un (by decide))); have H7 : Hid (W.heap.size ≤ (w6.alloc (.cells #[.pointer (some ⟨bp, 0, none⟩)] 31)).heap.size) := Lib.hid (by have h1 := HA5.out.st.low.size; have h2 := hgr6.size; simp at h2 ⊢; omega); clear hown6 hgr6 hat6)
          | (at_builtin; refine wpList_append_lies _ rfl _ _ 30 rfl W.heap.size 31 ip (.pointer none) 1 8 Try.underlying30 hip hp0 hp1 hp2 rfl (by decide) _ _ _ rfl (PS6.out.alloc _) ⟨w6.heap.size, 0, none⟩ 1 1 [.pointer (some ⟨bp, 0, none⟩)] rfl rfl (new_cells _ _ _) (one_ptr _) (by omega) H3.out H4.out H7.out _ rfl ?_; intro g7 c7 w7 hown7 hgr7 hat7 _; have HO7 := Lib.hid hown7; have HG7 := Lib.hid hgr7; have HAT7 := Lib.hid hat7; clear hown7 hgr7 hat7))
        go_roundw
        case rel => exact ⟨j + 1, by omega, by go_num, bs ++ [bp], Fs ++ [[bp]], _, by rw [HT.out, HRn.out, if_pos rfl]; exact HA.out.grow HRn.out h1 HB5.out HQ5.out HN4.out (newQ_ok HRn.out HU.out) HO6.out HG6.out HAT6.out HO7.out HG7.out HAT7.out⟩
        case measure => simp [intOf]; omega
    · obtain rfl : j = ops.length := by omega
      obtain ⟨ap, cp0, rfl⟩ := own_form HA.out.ps
      obtain ⟨au, cu0, rfl⟩ := own_form HA.out.un
      have HPL := Lib.hid (pickQ_length n (ops.take ops.length))
      obtain ⟨os0, hos0⟩ : ∃ os0, pickQ n (ops.take ops.length) = os0 := ⟨_, rfl⟩
      rw [hos0] at HA HPL
      have HBL : Hid (bs.length ≤ 1048576) := Lib.hid (by have h1 := HA.out.pends.len; have h2 := HPL.out; rw [List.length_take] at h2; omega)
      clear hos0
      go_wp2_with (at_make; refine wpList_make_full _ rfl _ _ 40 rfl wr.heap.size 39 iU (.int .u64 0) 1 Try.underlying40 hiU hU0 hU1 .i64 .i64 n n n rfl rfl rfl rfl hbu hmu (Nat.le_refl _) ?_; intro w7 hown7 hgr7; rw [noughts29] at hown7; have HA7 := Lib.hid (HA.out.begin ((Below.refl _ _).grown hgr7 (Nat.le_refl _) (by simp)) hown7); clear hown7 hgr7)
      obtain ⟨gl, hgl⟩ : ∃ gl, wr.heap.size = gl := ⟨_, rfl⟩
      rw [hgl] at HA7 ⊢
      clear hgl
      go_loopw [15, 16] (fun sv i wr => ∃ k : Nat, k ≤ ks.length ∧ i = .int .i64 k ∧ ∃ ws os Fs xs A1 m1 c1 X, sv = .slice A1 m1 c1 ∧ AllQ W n br bk bw ws os bs Fs ws os xs (.slice ap bs.length cp0) (.slice au bs.length cu0) (A1, m1, c1) X wr) (fun _ i _ => ks.length - (intOf i).toNat)
      case atStart => exact ⟨0, Nat.zero_le _, rfl, _, _, _, _, _, _, _, _, rfl, HA7.out⟩
      case round =>
        obtain ⟨k, hk, rfl, ws, os, Fs, xs, A1, m1, c1, X, rfl, hA⟩ := hrel
        have HA := Lib.hid hA
        clear hA HA7 HS1
        by_cases hlt : k < ks.length
        · obtain ⟨kk, hkk⟩ : ∃ kk, ks[k]? = some kk := ⟨ks[k], List.getElem?_eq_getElem hlt⟩
          obtain ⟨b, o, rfl, hbl, e0⟩ := (HXS.out.on HA.out.st.low) k kk hkk
          have hlt2 : (k : Int) < (ks.length : Int) := by omega
          clear hkk
          by_cases hin : 0 ≤ kk ∧ kk < (bs.length : Int)
          · obtain ⟨q, rfl⟩ := Int.eq_ofNat_of_zero_le hin.1
            have hqb : q < bs.length := by omega
            have hqb2 : (q : Int) < (bs.length : Int) := hin.2
            obtain ⟨oq, bp, F, rx, gp, cp, gu, cu, ho, hb, hF, hx, hq, hok, hd, hi, hvp, hvu, pc, gplt, gult, gne⟩ := HA.out.get hqb
            cases hvp
            cases hvu
            have HO := Lib.hid ho
            have HBq := Lib.hid hb
            have HFq := Lib.hid hF
            have HXr := Lib.hid hx
            have HQ := Lib.hid hq
            have HOK := Lib.hid hok
            have hq13 : q * 13 ≤ 13631488 := by have := HBL.out; omega
            have HLEN := Lib.hid HA.out.st.len
            have HUS := Lib.hid HA.out.st.regs.words.ok
            clear hin ho hb hF hx hq hok hd hi
            obtain ⟨d0, d1, d2, d3, d4, hdi⟩ := did_five ws oq
            obtain ⟨ws2, hws⟩ : ∃ ws2, stepQW ws oq = ws2 := ⟨_, rfl⟩
            obtain ⟨o2, ho2⟩ : ∃ o2, stepQ ws oq = o2 := ⟨_, rfl⟩
            obtain ⟨la, hla⟩ : ∃ la, decide (o2.ph = 2) = la := ⟨_, rfl⟩
            have HDI := Lib.hid hdi
            have HWS := Lib.hid hws
            have HO2 := Lib.hid ho2
            have HLA := Lib.hid hla
            have HO2q : Hid ((os.set q o2)[q]? = some o2) := Lib.hid (List.getElem?_set_self (lt_of_get HO.out))
            have HOK2 : Hid (OkQ n o2) := Lib.hid (by rw [← ho2]; exact stepQ_ok HUS.out HLEN.out HOK.out)
            clear hdi hws ho2 hla
            go_upto_region 26 with fail
            go_cut [18, 19] (fun s18 s19 wx => ∃ b18 Fs2, s18 = .pointer (some ⟨b18, 0, none⟩) ∧ s19 = .bool la ∧ BoxQ W Fs2 b18 48 [.int .u8 d0, .int .i64 d1, .int .u64 d2, .int .u64 d3, .bool d4] wx ∧ AllQ W n br bk bw ws2 (os.set q o2) bs Fs2 ws os xs (.slice (some ⟨gp, 0, none⟩) bs.length cp0) (.slice (some ⟨gu, 0, none⟩) bs.length cu0) (A1, m1, c1) X wx)
            case first =>
              go_wp2_with (go_at_call 14; refine (qstep_op HA.out.st.regs.words HLEN.out h64 HQ.out HA.out.st.low.size HOK.out).mono ?_; rintro e w2 ⟨he, hW2, ⟨F2, hq2, hF2⟩, hP2⟩; rw [HDI.out, HO2.out, HLA.out] at he; subst he; simp only [didV]; have hc := HA.out.code HO.out HBq.out HFq.out hW2 hq2 hF2 hP2; rw [HWS.out, HO2.out] at hc; have HC := Lib.hid hc; clear hc hW2 hq2 hF2 hP2)
              go_meet
              exact ⟨_, _, rfl, rfl, BoxQ.new HC.out [.int .u8 d0, .int .i64 d1, .int .u64 d2, .int .u64 d3, .bool d4], HC.out.alloc _⟩
            case rest =>
              obtain ⟨b18, Fs2, rfl, rfl, hB18, hC⟩ := hcut
              have HB18 := Lib.hid hB18
              have HC := Lib.hid hC
              clear hB18 hC pc gplt gult HQ
              obtain ⟨_, gplt, gult⟩ := HC.out.places HBq.out
              obtain ⟨e0, he0⟩ : ∃ e0, rx.en = e0 := ⟨_, rfl⟩
              have hen : e0 = decide (oq.ph = 2) := he0.symm.trans (HC.out.docs q oq rx HO.out HXr.out).en
              have xen : wc.cell? ⟨gu, q * 13 + 9, none⟩ = some (.bool e0) := (HC.out.und HXr.out).trans (by rw [he0])
              have HEN0 := Lib.hid hen
              have HE0 := Lib.hid he0
              clear hen he0
              go_upto_if 129 with fail
              go_cut [15, 20] (fun s15 s20 wx => ∃ b20 A5 m5 c5 xs2 X2, s15 = .slice A5 m5 c5 ∧ s20 = .pointer (some ⟨b20, 0, none⟩) ∧ BoxQ W Fs2 b18 48 [.int .u8 d0, .int .i64 d1, .int .u64 d2, .int .u64 d3, .bool d4] wx ∧ BoxQ W Fs2 b20 48 [.int .u8 d0, .int .i64 d1, .int .u64 d2, .int .u64 d3, .bool d4] wx ∧ AllQ W n br bk bw ws2 (os.set q o2) bs Fs2 ws2 (os.set q o2) xs2 (.slice (some ⟨gp, 0, none⟩) bs.length cp0) (.slice (some ⟨gu, 0, none⟩) bs.length cu0) (A5, m5, c5) X2 wx)
              case first =>
                have H20 := Lib.hid (BoxQ.new (t := 48) HC.out [.int .u8 0, .int .i64 0, .int .u64 0, .int .u64 0, .bool false])
                have hC0 := HC.out.alloc (.cells #[.int .u8 0, .int .i64 0, .int .u64 0, .int .u64 0, .bool false] 48)
                have HC0 := Lib.hid hC0
                have HB0 := Lib.hid (HB18.out.on ((Below.refl _ _).alloc (Nat.le_refl _) (.cells #[.int .u8 0, .int .i64 0, .int .u64 0, .int .u64 0, .bool false] 48)))
                have n1820 : b18 ≠ wc.heap.size := Nat.ne_of_lt HB18.out.row.lt
                have ngu : ¬ gu = wc.heap.size := Nat.ne_of_lt gult
                have ngu' : ¬ wc.heap.size = gu := fun e => ngu e.symm
                obtain ⟨k, r, v, t, ld, saw, aq, ⟨P1, n1, k1⟩, ⟨P2, n2, k2⟩, en, ⟨P3, n3, k3⟩, cl, co⟩ := rx
                have HD0 := Lib.hid (hC0.docs q oq _ HO.out HXr.out)
                have he0 := HE0.out
                have hen := HEN0.out
                simp only at he0
                subst he0
                clear xen
                have hcells := un_cells hC0.un HXr.out
                simp only [sl] at hcells
                obtain ⟨u0, u1, u2, u3, u4, u5, u6, u7, u8, u9, u10, u11, u12⟩ := hcells
                by_cases hp : oq.ph = 2
                · have hE : en = true := by rw [hen]; simpa using hp
                  subst hE
                  have hov := stepQ_over (ws := ws) hp
                  have hdd : didQ ws oq = (0, 0, 0, 0, false) := by unfold didQ; rw [if_pos hp]
                  have e1 : ws2 = ws := HWS.out.symm.trans hov.2
                  have e2 : o2 = oq := HO2.out.symm.trans hov.1
                  have e3 := HDI.out
                  rw [hdd] at e3
                  simp only [Prod.mk.injEq] at e3
                  obtain ⟨rfl, rfl, rfl, rfl, rfl⟩ := e3
                  have HOVA : Hid (AllQ W n br bk bw ws2 (os.set q o2) bs Fs2 ws2 (os.set q o2) xs (.slice (some ⟨gp, 0, none⟩) bs.length cp0) (.slice (some ⟨gu, 0, none⟩) bs.length cu0) (A1, m1, c1) X (wc.alloc (.cells #[.int .u8 0, .int .i64 0, .int .u64 0, .int .u64 0, .bool false] 48))) := Lib.hid (by
                    have := HC0.out
                    rw [e1, e2, set_same HO.out] at this ⊢
                    exact this)
                  clear hen HEN0 HE0 hp hov hdd e1 e2 hC0
                  go_wp2
                  go_meet
                  exact ⟨_, A1, m1, c1, xs, X, rfl, rfl, HB0.out, H20.out, HOVA.out⟩
                · have hE : en = false := by rw [hen]; simpa using hp
                  subst hE
                  have HP := Lib.hid hp
                  have HDOP := Lib.hid (dop_any hC0.doc hC0.st.low.size HLEN.out h64 HUS.out HOK.out (HA.out.phase HO.out) hp (hC0.inv oq (List.mem_of_getElem? HO.out)) HD0.out)
                  simp only [DU.cells, sl, undD] at HDOP
                  clear hen HEN0 HE0 hp hC0
                  go_wp2_with (go_at_call 15; refine HDOP.out.mono ?_; rintro e w3 ⟨⟨As, ms, cs⟩, ⟨k', r', v', t', ld', saw', aq', ⟨P1', n1', k1'⟩, ⟨P2', n2', k2'⟩, en', ⟨P3', n3', k3'⟩, cl', co'⟩, Y, rfl, hb3, hY, hL3, hD3⟩; rw [HDI.out]; simp only [DU.cells, sl, undD, didU]; have HN3 := Lib.hid (next_all (d0 := d0) (d1 := d1) (d2 := d2) (d3 := d3) (d4 := d4) HC0.out HO.out HXr.out hb3 hY hL3 hD3 HOK.out HLEN.out HUS.out HB0.out H20.out n1820); have hA3 := HC0.out.on hb3; have hcells3 := un_cells hA3.un HXr.out; simp only [sl] at hcells3; obtain ⟨y0, y1, y2, y3, y4, y5, y6, y7, y8, y9, y10, y11, y12⟩ := hcells3; have yf := hA3.un.frozenAt; have ylt := own_block hA3.un gu rfl; have h203 := (H20.out.on hb3).row; obtain ⟨z0, z1, z2, z3, z4⟩ := h203.five6; have zf := h203.free; have zlt := h203.lt; clear hb3 hY hL3 hD3 hA3 h203)
                  go_meet
                  obtain ⟨a1, a2, a3⟩ := HN3.out
                  rw [HWS.out, HO2.out] at a1
                  exact ⟨_, As, ms, cs, _, _, rfl, rfl, a2, a3, a1⟩
              case rest =>
                obtain ⟨b20, A5, m5, c5, xs2, X2, rfl, rfl, hB18, hB20, hC2⟩ := hcut
                obtain ⟨F2, rx2, hF2, hx2, hq2, _, hd2⟩ := hC2.at_ HO2q.out HBq.out
                have HEN : Hid (some (Value.bool rx2.en) = some (.bool la)) := Lib.hid (by rw [hd2.en.trans HLA.out])
                have HX2 := Lib.hid hx2
                have HB18 := Lib.hid hB18
                have HB20 := Lib.hid hB20
                have HC2 := Lib.hid hC2
                clear hB18 hB20 hC2 hF2 hx2 hq2 hd2 HC xen gplt gult
                obtain ⟨_, gplt, gult⟩ := HC2.out.places HBq.out
                have xen : wc.cell? ⟨gu, q * 13 + 9, none⟩ = some (.bool la) := (HC2.out.und HX2.out).trans HEN.out
                go_upto_if 148 with fail
                go_cut [21] (fun s21 wx => ∃ b21 A6 m6 c6 cl co, s21 = .pointer (some ⟨b21, 0, none⟩) ∧ BoxQ W Fs2 b21 43 [.slice A6 m6 c6, .bool cl, .int .i64 co] wx ∧ AnsQ W X2 o2 la (A6, m6, c6) cl co wx ∧ BoxQ W Fs2 b18 48 [.int .u8 d0, .int .i64 d1, .int .u64 d2, .int .u64 d3, .bool d4] wx ∧ BoxQ W Fs2 b20 48 [.int .u8 d0, .int .i64 d1, .int .u64 d2, .int .u64 d3, .bool d4] wx ∧ AllQ W n br bk bw ws2 (os.set q o2) bs Fs2 ws2 (os.set q o2) xs2 (.slice (some ⟨gp, 0, none⟩) bs.length cp0) (.slice (some ⟨gu, 0, none⟩) bs.length cu0) (A5, m5, c5) X2 wx)
                case first =>
                  have hbv : ∀ o : Obj, Below wc.heap.size wc (wc.alloc o) := fun o => (Below.refl _ _).alloc (Nat.le_refl _) o
                  have HBV := Lib.hid hbv
                  have ngu : ¬ gu = wc.heap.size := Nat.ne_of_lt gult
                  obtain ⟨k, r, v, t, ld, saw, aq, ⟨P1, n1, k1⟩, ⟨P2, n2, k2⟩, en, ⟨P3, n3, k3⟩, cl, co⟩ := rx2
                  have hen := HEN.out
                  simp only [Option.some.injEq, Value.bool.injEq] at hen
                  have hcells := un_cells (HC2.out.alloc (.cells #[.slice none 0 0, .bool false, .int .i64 0] 43)).un HX2.out
                  simp only [sl] at hcells
                  obtain ⟨u0, u1, u2, u3, u4, u5, u6, u7, u8, u9, u10, u11, u12⟩ := hcells
                  clear hbv xen
                  subst hen
                  cases en with
                  | true =>
                    have HOV := Lib.hid ((HC2.out.docs q o2 _ HO2q.out HX2.out).over (of_decide_eq_true HLA.out))
                    go_wp2
                    go_meet
                    exact ⟨_, P3, n3, k3, cl, co, rfl, BoxQ.new HC2.out [.slice P3 n3 k3, .bool cl, .int .i64 co], ⟨fun _ => ⟨HOV.out.1.on (HBV.out _), HOV.out.2⟩, fun e => absurd e (by simp)⟩, HB18.out.on (HBV.out _), HB20.out.on (HBV.out _), HC2.out.on (HBV.out _)⟩
                  | false =>
                    go_wp2
                    go_meet
                    exact ⟨_, none, 0, 0, false, 0, rfl, BoxQ.new HC2.out [.slice none 0 0, .bool false, .int .i64 0], ⟨fun e => absurd e (by simp), fun _ => ⟨rfl, rfl, rfl⟩⟩, HB18.out.on (HBV.out _), HB20.out.on (HBV.out _), HC2.out.on (HBV.out _)⟩
                case rest =>
                  obtain ⟨b21, A6, m6, c6, cl, co, rfl, hB21, hans, hB18, hB20, hC3⟩ := hcut
                  obtain ⟨F2, rx3, hF2, hx3, hq3, _, _⟩ := hC3.at_ HO2q.out HBq.out
                  have HANS := Lib.hid hans
                  have HB21 := Lib.hid hB21
                  have HB18 := Lib.hid hB18
                  have HB20 := Lib.hid hB20
                  have HC3 := Lib.hid hC3
                  have HQ2 := Lib.hid hq3
                  have HQD := Lib.hid (fun m : Nat => hq3.part ((Part.refl [] wc).drewN m) (by simp))
                  clear hB21 hans hB18 hB20 hC3 hF2 hx3 hq3 HC2
                  obtain ⟨xa0, xa1, xa2, xa3, xa4⟩ := HB18.out.row.five6
                  obtain ⟨xb0, xb1, xb2, xb3, xb4⟩ := HB20.out.row.five6
                  obtain ⟨xc0, xc1, xc2⟩ := HB21.out.row.three
                  obtain ⟨xp, xgp, xgu⟩ := HC3.out.places HBq.out
                  have xu := (HC3.out.und HX2.out).trans HEN.out
                  cases la with
                  | true =>
                    obtain ⟨hR6, hcl6, hco6⟩ := HANS.out.yes rfl
                    have HR6 := Lib.hid hR6
                    have HCL6 := Lib.hid hcl6.symm
                    have HCO6 := Lib.hid hco6.symm
                    have hm6 : o2.xs.length = m6 := hR6.2.1.symm
                    have HM6 := Lib.hid hm6
                    have HPH : Hid (o2.ph = 2) := Lib.hid (of_decide_eq_true HLA.out)
                    have HM64 : Hid (m6 ≤ 1000000) := Lib.hid (by obtain ⟨_, _, _, _, _, _, _, _, _, _, _, _, _, h64'⟩ := HQ2.out.ended HPH.out; omega)
                    clear hR6 hcl6 hco6 hm6
                    go_wp2
                    go_region_held3 (fun w' => w'.cell? ⟨b18, 0, none⟩ = some (.int .u8 d0) ∧ w'.cell? ⟨b18, 1, none⟩ = some (.int .i64 d1) ∧ w'.cell? ⟨b18, 2, none⟩ = some (.int .u64 d2) ∧ w'.cell? ⟨b18, 3, none⟩ = some (.int .u64 d3) ∧ w'.cell? ⟨b18, 4, none⟩ = some (.bool d4) ∧ w'.cell? ⟨b20, 0, none⟩ = some (.int .u8 d0) ∧ w'.cell? ⟨b20, 1, none⟩ = some (.int .i64 d1) ∧ w'.cell? ⟨b20, 2, none⟩ = some (.int .u64 d2) ∧ w'.cell? ⟨b20, 3, none⟩ = some (.int .u64 d3) ∧ w'.cell? ⟨b20, 4, none⟩ = some (.bool d4) ∧ w'.cell? ⟨b21, 0, none⟩ = some (.slice A6 m6 c6) ∧ w'.cell? ⟨b21, 1, none⟩ = some (.bool cl) ∧ w'.cell? ⟨b21, 2, none⟩ = some (.int .i64 co) ∧ w'.cell? ⟨gp, q, none⟩ = some (.pointer (some ⟨bp, 0, none⟩)) ∧ w'.cell? ⟨gu, q * 13 + 9, none⟩ = some (.bool true))
                      (first | (with_reducible exact ⟨xa0, xa1, xa2, xa3, xa4, xb0, xb1, xb2, xb3, xb4, xc0, xc1, xc2, xp, xu⟩) | (with_reducible exact ⟨ya0, ya1, ya2, ya3, ya4, yb0, yb1, yb2, yb3, yb4, yc0, yc1, yc2, yp, yu⟩) | (with_reducible exact ⟨za0, za1, za2, za3, za4, zb0, zb1, zb2, zb3, zb4, zc0, zc1, zc2, zp, zu⟩) | go_keep)
                      (first
                        | (go_at_call 16; refine (qdone_op (HQD.out _) HOK2.out HLA.out).mono ?_; rintro e wx ⟨rfl, rfl⟩)
                        | (go_at_call 18; refine (qanswer_op (HQD.out _) HPH.out HM6.out HCL6.out HCO6.out).mono ?_; rintro e w9 ⟨b9, c9, rfl, _, ho9, hb9⟩; have HO9 := Lib.hid (own_liesR ho9); have HO9L := Lib.hid (own_lt ho9 b9 rfl); have HR9 := Lib.hid ((HR6.out.on (Below.draws (Below.refl _ _) 1)).on hb9).liesA; have HY18 := Lib.hid ((HB18.out.on (Below.draws (Below.refl _ _) 1)).on hb9); have HY20 := Lib.hid ((HB20.out.on (Below.draws (Below.refl _ _) 1)).on hb9); have HY21 := Lib.hid ((HB21.out.on (Below.draws (Below.refl _ _) 1)).on hb9); have HYA := Lib.hid ((HC3.out.drewN 1).on hb9); obtain ⟨ya0, ya1, ya2, ya3, ya4⟩ := HY18.out.row.five6; obtain ⟨yb0, yb1, yb2, yb3, yb4⟩ := HY20.out.row.five6; obtain ⟨yc0, yc1, yc2⟩ := HY21.out.row.three; obtain ⟨yp, ygp, ygu⟩ := HYA.out.places HBq.out; have yu := (HYA.out.und HX2.out).trans HEN.out)
                        | (go_at_call 17; refine (dsame_yes HO9.out HR9.out.1 HM6.out HM64.out (fun g e => by cases e; exact HO9L.out) HR9.out.2).mono ?_; rintro e w10 ⟨rfl, hb10⟩; have HZ18 := Lib.hid (HY18.out.on hb10); have HZ20 := Lib.hid (HY20.out.on hb10); have HZ21 := Lib.hid (HY21.out.on hb10); have HZA := Lib.hid (HYA.out.on hb10); obtain ⟨za0, za1, za2, za3, za4⟩ := HZ18.out.row.five6; obtain ⟨zb0, zb1, zb2, zb3, zb4⟩ := HZ20.out.row.five6; obtain ⟨zc0, zc1, zc2⟩ := HZ21.out.row.three; obtain ⟨zp, zgp, zgu⟩ := HZA.out.places HBq.out; have zu := (HZA.out.und HX2.out).trans HEN.out))
                    all_goals
                      go_wp2
                      go_roundw
                      case rel => exact ⟨k + 1, by omega, by go_num, ws2, _, Fs2, xs2, A5, m5, c5, X2, rfl, HZA.out⟩
                      case measure => simp [intOf]; omega
                  | false =>
                    obtain ⟨hn6, hcl6, hco6⟩ := HANS.out.no rfl
                    simp only [nilU, Prod.mk.injEq] at hn6
                    obtain ⟨rfl, rfl, rfl⟩ := hn6
                    subst hcl6
                    subst hco6
                    have HPH : Hid (o2.ph ≠ 2) := Lib.hid (of_decide_eq_false HLA.out)
                    go_wp2
                    go_region_held3 (fun w' => w'.cell? ⟨b18, 0, none⟩ = some (.int .u8 d0) ∧ w'.cell? ⟨b18, 1, none⟩ = some (.int .i64 d1) ∧ w'.cell? ⟨b18, 2, none⟩ = some (.int .u64 d2) ∧ w'.cell? ⟨b18, 3, none⟩ = some (.int .u64 d3) ∧ w'.cell? ⟨b18, 4, none⟩ = some (.bool d4) ∧ w'.cell? ⟨b20, 0, none⟩ = some (.int .u8 d0) ∧ w'.cell? ⟨b20, 1, none⟩ = some (.int .i64 d1) ∧ w'.cell? ⟨b20, 2, none⟩ = some (.int .u64 d2) ∧ w'.cell? ⟨b20, 3, none⟩ = some (.int .u64 d3) ∧ w'.cell? ⟨b20, 4, none⟩ = some (.bool d4) ∧ w'.cell? ⟨b21, 0, none⟩ = some (.slice none 0 0) ∧ w'.cell? ⟨b21, 1, none⟩ = some (.bool false) ∧ w'.cell? ⟨b21, 2, none⟩ = some (.int .i64 0) ∧ w'.cell? ⟨gp, q, none⟩ = some (.pointer (some ⟨bp, 0, none⟩)) ∧ w'.cell? ⟨gu, q * 13 + 9, none⟩ = some (.bool false))
                      (first | (with_reducible exact ⟨xa0, xa1, xa2, xa3, xa4, xb0, xb1, xb2, xb3, xb4, xc0, xc1, xc2, xp, xu⟩) | (with_reducible exact ⟨ya0, ya1, ya2, ya3, ya4, yb0, yb1, yb2, yb3, yb4, yc0, yc1, yc2, yp, yu⟩) | (with_reducible exact ⟨za0, za1, za2, za3, za4, zb0, zb1, zb2, zb3, zb4, zc0, zc1, zc2, zp, zu⟩) | go_keep)
                      (first
                        | (go_at_call 16; refine (qdone_op (HQD.out _) HOK2.out HLA.out).mono ?_; rintro e wx ⟨rfl, rfl⟩)
                        | (go_at_call 18; refine (qanswer_none (HQD.out _) HOK2.out HPH.out).mono ?_; unfold noView; rintro e w9 ⟨rfl, hb9⟩; have HY18 := Lib.hid ((HB18.out.on (Below.draws (Below.refl _ _) 1)).on hb9); have HY20 := Lib.hid ((HB20.out.on (Below.draws (Below.refl _ _) 1)).on hb9); have HY21 := Lib.hid ((HB21.out.on (Below.draws (Below.refl _ _) 1)).on hb9); have HYA := Lib.hid ((HC3.out.drewN 1).on hb9); obtain ⟨ya0, ya1, ya2, ya3, ya4⟩ := HY18.out.row.five6; obtain ⟨yb0, yb1, yb2, yb3, yb4⟩ := HY20.out.row.five6; obtain ⟨yc0, yc1, yc2⟩ := HY21.out.row.three; obtain ⟨yp, ygp, ygu⟩ := HYA.out.places HBq.out; have yu := (HYA.out.und HX2.out).trans HEN.out)
                        | (go_at_call 17; have hs := dsame_zero w9; unfold noView at hs; refine hs.mono ?_; clear hs; rintro e w10 ⟨rfl, hb10⟩; have HZ18 := Lib.hid (HY18.out.on hb10); have HZ20 := Lib.hid (HY20.out.on hb10); have HZ21 := Lib.hid (HY21.out.on hb10); have HZA := Lib.hid (HYA.out.on hb10); obtain ⟨za0, za1, za2, za3, za4⟩ := HZ18.out.row.five6; obtain ⟨zb0, zb1, zb2, zb3, zb4⟩ := HZ20.out.row.five6; obtain ⟨zc0, zc1, zc2⟩ := HZ21.out.row.three; obtain ⟨zp, zgp, zgu⟩ := HZA.out.places HBq.out; have zu := (HZA.out.und HX2.out).trans HEN.out))
                    all_goals
                      go_wp2
                      go_roundw
                      case rel => exact ⟨k + 1, by omega, by go_num, ws2, _, Fs2, xs2, A5, m5, c5, X2, rfl, HZA.out⟩
                      case measure => simp [intOf]; omega
          · rcases (show kk < 0 ∨ (0 ≤ kk ∧ (bs.length : Int) ≤ kk) by omega) with hneg | ⟨hpos, hge⟩
            · have hb1 : decide (kk < 0) = true := by simpa using hneg
              clear hin hneg
              go_wp2
              go_roundw
              case rel => exact ⟨k + 1, by omega, by go_num, ws, os, Fs, xs, A1, m1, c1, X, rfl, HA.out⟩
              case measure => simp [intOf]; omega
            · have hb1 : decide (kk < 0) = false := by simp; omega
              have hb2 : decide ((bs.length : Int) ≤ kk) = true := by simpa using hge
              clear hin hpos hge
              go_wp2
              go_roundw
              case rel => exact ⟨k + 1, by omega, by go_num, ws, os, Fs, xs, A1, m1, c1, X, rfl, HA.out⟩
              case measure => simp [intOf]; omega
        · obtain rfl : k = ks.length := by omega
          have hm1 := HA.out.doc.len
          simp only at hm1
          have HWL := Lib.hid HA.out.st.len
          have hmn1 : n = m1 := (hm1.trans HWL.out).symm
          subst hmn1
          clear hm1
          go_wp2_with (first
            | (go_at_call 20; refine (rall_at HA.out.st.regs HWL.out).mono ?_; rintro e w8 ⟨b8, rfl, _, hr8, hb8⟩; have HR8 := Lib.hid hr8; have HA8 := Lib.hid (HA.out.on hb8); clear hr8 hb8)
            | (go_at_call 21; refine (dall_at HA8.out.doc.lies HA8.out.st.regs.words.ok HWL.out (by omega) h64).mono ?_; rintro e w9 ⟨b10, c10, rfl, _, hr9, hb9⟩; have HL9 := Lib.hid hr9; have HL8 := Lib.hid (HR8.out.below hb9 HR8.out.lt).liesR; have HA9 := Lib.hid (HA8.out.on hb9); clear hr9 hb9)
            | (go_at_call 19; refine (dregs_yes HL8.out HL9.out HWL.out (by omega)).mono ?_; rintro e wz ⟨rfl, mz, rfl⟩)
            | (go_at_call 11; refine (rbegins_any _).mono ?_; rintro e w0 ⟨rfl, hb⟩; have HB0 := Lib.hid hb; clear hb))
          go_ret
          exact ⟨rfl, (Below.draws HA9.out.st.low mz).trans (HB0.out.mono HA9.out.st.low.size)⟩
end Go.Proofs.Ytdadgppbpomdoaa
