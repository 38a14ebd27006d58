/- THE WALK of the law 'SnapOwn'. -/
import Derived.Test.YtdadgppbpomdoaaPe
import Derived.Test.YtdadgppbpomdoaaEz
import Derived.BigGuard
namespace Go.Proofs.Ytdadgppbpomdoaa
open Go Go.RowKit

/-- the words behind a Put of whatever register -/
def putAt (ws : List Int) (r v : Int) : List Int := if 0 ≤ r ∧ r < (ws.length : Int) then ws.set r.toNat (afterW (ws.getD r.toNat 0) v) else ws
theorem putAt_length (ws : List Int) (r v : Int) : (putAt ws r v).length = ws.length := by unfold putAt; split <;> simp
/-- what a Put leaves, of whatever register -/
theorem rput_all {w : World} {br bk bw : Nat} {ws : List Int} (h : Regs w br bk bw ws) {r v : Int} (hv : U32 v) :
    Calls Try.prog 22 #[.pointer (some ⟨br, 0, none⟩), .int .i64 r, .int .u32 v] w fun e w' => (∃ u z, e = .returned (.tuple #[u, .int .i64 z])) ∧ Regs w' br bk bw (putAt ws r v) ∧ Part [bw] w w' := by
  unfold putAt
  by_cases hr : 0 ≤ r ∧ r < (ws.length : Int)
  · rw [if_pos hr]
    obtain ⟨i, rfl⟩ := Int.eq_ofNat_of_zero_le hr.1
    have hi : i < ws.length := by omega
    have hx : ws[i]? = some (ws.getD i 0) := by simp [List.getD, hi]
    exact (rput_any h hx hv).mono fun e w' ⟨he, hR, hP⟩ => ⟨⟨_, _, he⟩, hR, hP⟩
  · rw [if_neg hr]
    have hf : rightS ws.length 1 r v 0 = false := by
      simp [rightS]
      omega
    exact (rput_no h hf).mono fun e w' ⟨he, hb⟩ => ⟨⟨_, _, he⟩, h.on hb, Part.of_below hb (Nat.le_refl _) _⟩

set_option maxRecDepth 100000
theorem sown_no {n : Int} (h : n < 1 ∨ 64 < n) {A : Option Addr} {len cap : Nat} (W : World) :
    Calls Try.prog 9 #[.int .i64 n, .slice A len cap] W fun e w' => e = .returned (.bool true) ∧ Below W.heap.size W w' := by
  have H := Lib.hid h
  clear h
  go_enter Try.func9, Try.ntmps9
  go_wp2_with (first
    | (go_at_call 11; refine (rbegins_any _).mono ?_; rintro e w0 ⟨rfl, hb⟩; have HB0 := Lib.hid hb; clear hb)
    | (go_at_call 10; refine (rnew_no H.out).mono ?_; rintro e wx ⟨rfl, rfl⟩))
  go_ret
  exact ⟨rfl, HB0.out⟩

theorem row_at {w : World} {b : Nat} {t : TypeId} {l : List Value} (h : Row w b t l) : ∀ j u, l[j]? = some u → w.cell? ((⟨b, 0, none⟩ : Addr).add j) = some u := fun j u hj => by
  rw [add_zero_]
  exact (h.cell j).trans hj
theorem reg_cells_one (xs : List Int) : ∀ u ∈ regCells xs, u.oneCell' = true := by
  intro u hu
  unfold regCells at hu
  rw [List.mem_flatMap] at hu
  obtain ⟨x, _, hu⟩ := hu
  simp at hu
  rcases hu with rfl | rfl <;> rfl
theorem ownsRow_base {w : World} {base base' : Nat} {e : TypeId} {size : Nat} {v : Value} {n : Nat} {xs : List Value} (h : w.ownsRow base e size v n xs) (hb : base' ≤ base) : w.ownsRow base' e size v n xs := by
  obtain ⟨h1, h2⟩ := h
  refine ⟨h1, ?_⟩
  rcases h2 with h2 | ⟨g, cap, cur, hv, hg, r⟩
  · exact Or.inl h2
  · exact Or.inr ⟨g, cap, cur, hv, Nat.le_trans hb hg, r⟩
/-- the registers among what the call has made -/
structure SnSt (W : World) (n br bk bw : Nat) (ws : List Int) (wr : World) : Prop where
  regs : Regs wr br bk bw ws
  len : ws.length = n
  lo : W.heap.size ≤ bw
  low : Below W.heap.size W wr
theorem SnSt.step {W : World} {n br bk bw : Nat} {ws ws' : List Int} {wr w1 : World} (h : SnSt W n br bk bw ws wr) (hR : Regs w1 br bk bw ws') (hl : ws'.length = ws.length) (hP : Part [bw] wr w1) : SnSt W n br bk bw ws' w1 :=
  ⟨hR, hl.trans h.len, h.lo, h.low.trans (hP.below h.low.size (by simpa using h.lo))⟩
theorem SnSt.on {W : World} {n br bk bw : Nat} {ws : List Int} {wr w1 : World} (h : SnSt W n br bk bw ws wr) (hb : Below wr.heap.size wr w1) : SnSt W n br bk bw ws w1 :=
  ⟨h.regs.on hb, h.len, h.lo, h.low.trans (hb.mono h.low.size)⟩
theorem SnSt.drew {W : World} {n br bk bw : Nat} {ws : List Int} {wr : World} (h : SnSt W n br bk bw ws wr) : SnSt W n br bk bw ws wr.drew := h.on ((Below.refl _ _).drew)

theorem noughts_one : ∀ u ∈ [Value.int .u32 0, .int .u32 0, .int .u32 0, .int .u32 0], u.oneCell' = true := by
  intro u hu
  simp at hu
  subst hu
  rfl
/-- what was answered: a and x are turned, b and what was kept are not -/
structure OwnR (W : World) (n br bk bw : Nat) (ws : List Int) (ba bb bx gk ck : Nat) (wr : World) : Prop where
  st : SnSt W n br bk bw ws wr
  a : ∃ la : List Value, la.length = ws.length * 2 ∧ Row wr ba 60 la
  x : ∃ la : List Value, la.length = ws.length * 2 ∧ Row wr bx 60 la
  b : Row wr bb 60 (regCells ws)
  k : wr.ownsRow 0 60 2 (.slice (some ⟨gk, 0, none⟩) ws.length ck) ws.length (regCells ws)
  ab : bb ≠ ba
  ax : bx ≠ ba
  ak : gk ≠ ba
  xb : bb ≠ bx
  xk : gk ≠ bx
  loa : W.heap.size ≤ ba
  lox : W.heap.size ≤ bx
section
variable {W wr w1 : World} {n br bk bw ba bb bx gk ck : Nat} {ws : List Int} {l : List Value}
theorem SnSt.far {b : Nat} (h : SnSt W n br bk bw ws wr) (hr : Row wr b 60 l) (hP : Part [b] wr w1) (hlo : W.heap.size ≤ b) : SnSt W n br bk bw ws w1 :=
  ⟨h.regs.part hP (by simpa using h.regs.head.ne hr (by decide)) (by simpa using h.regs.words.head.ne hr (by decide)) (by simpa using h.regs.words.row.ne hr (by decide)), h.len, h.lo,
    h.low.trans (hP.below h.low.size (by simpa using hlo))⟩
theorem OwnR.stepA (h : OwnR W n br bk bw ws ba bb bx gk ck wr) (hl : l.length = ws.length * 2) (hr : Row w1 ba 60 l) (hP : Part [ba] wr w1) : OwnR W n br bk bw ws ba bb bx gk ck w1 := by
  obtain ⟨la, _, hra⟩ := h.a
  obtain ⟨lx, hlx, hrx⟩ := h.x
  exact ⟨h.st.far hra hP h.loa, ⟨l, hl, hr⟩, ⟨lx, hlx, hrx.part hP (by simpa using h.ax)⟩, h.b.part hP (by simpa using h.ab), own_part h.k hP (fun q hq => by cases hq; simpa using h.ak), h.ab, h.ax, h.ak, h.xb, h.xk, h.loa, h.lox⟩
theorem OwnR.stepX (h : OwnR W n br bk bw ws ba bb bx gk ck wr) (hl : l.length = ws.length * 2) (hr : Row w1 bx 60 l) (hP : Part [bx] wr w1) : OwnR W n br bk bw ws ba bb bx gk ck w1 := by
  obtain ⟨la, hla, hra⟩ := h.a
  obtain ⟨lx, _, hrx⟩ := h.x
  exact ⟨h.st.far hrx hP h.lox, ⟨la, hla, hra.part hP (by simpa using fun e => h.ax e.symm)⟩, ⟨l, hl, hr⟩, h.b.part hP (by simpa using h.xb), own_part h.k hP (fun q hq => by cases hq; simpa using h.xk), h.ab, h.ax, h.ak, h.xb, h.xk, h.loa, h.lox⟩
theorem OwnR.on (h : OwnR W n br bk bw ws ba bb bx gk ck wr) (hb : Below wr.heap.size wr w1) : OwnR W n br bk bw ws ba bb bx gk ck w1 := by
  obtain ⟨la, hla, hra⟩ := h.a
  obtain ⟨lx, hlx, hrx⟩ := h.x
  exact ⟨h.st.on hb, ⟨la, hla, hra.below hb hra.lt⟩, ⟨lx, hlx, hrx.below hb hrx.lt⟩, h.b.below hb h.b.lt, own_part h.k (Part.of_below hb (Nat.le_refl _) []) (by simp), h.ab, h.ax, h.ak, h.xb, h.xk, h.loa, h.lox⟩
/-- b and what was kept are not turned -/
structure OwnB (W : World) (n br bk bw : Nat) (ws : List Int) (bb gk ck : Nat) (wr : World) : Prop where
  st : SnSt W n br bk bw ws wr
  b : Row wr bb 60 (regCells ws)
  k : wr.ownsRow 0 60 2 (.slice (some ⟨gk, 0, none⟩) ws.length ck) ws.length (regCells ws)
theorem OwnB.on (h : OwnB W n br bk bw ws bb gk ck wr) (hb : Below wr.heap.size wr w1) : OwnB W n br bk bw ws bb gk ck w1 :=
  ⟨h.st.on hb, h.b.below hb h.b.lt, own_part h.k (Part.of_below hb (Nat.le_refl _) []) (by simp)⟩
theorem OwnR.grown {o : Obj} (h : OwnR W n br bk bw ws ba bb bx gk ck wr) (hg : (wr.alloc o).grownBy w1 (some ba)) : OwnB W n br bk bw ws bb gk ck w1 := by
  obtain ⟨la, _, hra⟩ := h.a
  have hP : Part [ba] wr w1 := ((Part.refl [ba] wr).alloc o).grown hg (fun k hk _ => by cases hk; simp)
  exact ⟨h.st.far hra hP h.loa, h.b.part hP (by simpa using h.ab), own_part h.k hP (fun q hq => by cases hq; simpa using h.ak)⟩
theorem own_begin {w w4 w5 w6 w7 : World} (h6 : SnSt W n br bk bw ws w6) (ha : Row w6 ba 60 (regCells ws)) (hb : Row w6 bb 60 (regCells ws)) (hk : w6.ownsRow w5.heap.size 60 2 (.slice (some ⟨gk, 0, none⟩) ws.length ck) ws.length (regCells ws))
    (hba : w.heap.size ≤ ba) (hb4 : Below w.heap.size w w4) (hbb : w4.heap.size ≤ bb) (hb5 : Below w4.heap.size w4 w5) (hgk : w5.heap.size ≤ gk) (hlow : Below W.heap.size W w)
    (hbx : w6.heap.size ≤ bx) (hx : Row w7 bx 60 (regCells ws)) (hb7 : Below w6.heap.size w6 w7) (hra4 : ba < w4.heap.size) (hrb5 : bb < w5.heap.size) : OwnR W n br bk bw ws ba bb bx gk ck w7 := by
  have hka : gk < w6.heap.size := by
    rcases hk.2 with ⟨e, _⟩ | ⟨g, c, cur, hv, _, hh, _⟩
    · cases e
    · cases hv; exact lt_of_block hh
  have l1 := ha.lt
  have l2 := hb.lt
  have s1 := hlow.size
  have s4 := hb4.size
  have s5 := hb5.size
  exact ⟨h6.on hb7, ⟨_, by simp, ha.below hb7 ha.lt⟩, ⟨_, by simp, hx⟩, hb.below hb7 hb.lt, ownsRow_base (own_part hk (Part.of_below hb7 (Nat.le_refl _) []) (by simp)) (Nat.zero_le _), by omega, by omega, by omega, by omega, by omega, by omega, by omega⟩
end

theorem dregs_yes {w : World} {A B : Option Addr} {c c' n : Nat} {xs : List Int} (h : LiesR w A xs) (h' : LiesR w B xs) (hx : xs.length = n) (hl : n ≤ 1000000) :
    Calls Try.prog 19 #[.slice A n c, .slice B n c'] w fun e w' => e = .returned (.bool true) ∧ ∃ m, w' = w.drewN m :=
  (dregs_any h h' hx hx hl).mono fun _ _ ⟨a, b⟩ => ⟨by rw [a, decide_eq_true rfl], b⟩

set_option maxHeartbeats 3200000 in
theorem sown_yes {n : Nat} (h1 : 1 ≤ n) (h64 : n ≤ 64) {A : Option Addr} {cap : Nat} {ops : List (Int × Int × Int × Int)} (W : World) (hE : Ext4 .u8 .i64 .u32 .i64 W A ops) (hv : ∀ op ∈ ops, U32 op.2.2.1) (hr : ops.length * 32 ≤ 140737488351232) :
    Calls Try.prog 9 #[.int .i64 (n : Int), .slice A ops.length cap] W fun e w' => e = .returned (.bool true) ∧ Below W.heap.size W w' := by
  obtain ⟨i0, hi, hz0, hz1, hz2⟩ := info_parts infoReg
  have HE := Lib.hid hE
  have HV := Lib.hid hv
  have H1 := Lib.hid h1
  have H64 := Lib.hid h64
  clear hE h1 h64 hv
  go_enter Try.func9, Try.ntmps9
  go_wp2_with (first
    | (go_at_call 11; refine (rbegins_any _).mono ?_; rintro e w0 ⟨rfl, hb⟩; have HB0 := Lib.hid hb; clear hb)
    | (go_at_call 10; refine (rnew_yes w0 H1.out H64.out).mono ?_; rintro e w1 ⟨br, bk, bw, rfl, hc, hk, hw, hS, hb⟩; have HS1 : Hid (SnSt W n br bk bw (List.replicate n 0) w1) := Lib.hid ⟨hS, by simp, Nat.le_trans HB0.out.size hw, HB0.out.trans (hb.mono HB0.out.size)⟩; clear hc hk hw hS hb))
  go_loopw [7] (fun i wr => ∃ k : Nat, k ≤ ops.length ∧ i = .int .i64 k ∧ ∃ ws, SnSt W n br bk bw ws wr) (fun i _ => ops.length - (intOf i).toNat)
  case atStart => exact ⟨0, Nat.zero_le _, rfl, _, HS1.out⟩
  case round =>
    obtain ⟨k, hk, rfl, ws, hO⟩ := hrel
    have HO := Lib.hid hO
    clear hO HS1
    by_cases hlt : k < ops.length
    · obtain ⟨op, hop⟩ : ∃ op, ops[k]? = some op := ⟨ops[k], List.getElem?_eq_getElem hlt⟩
      obtain ⟨b, o, rfl, hb, c0, c1, c2, c3⟩ := (HE.out.on HO.out.low) k op hop
      have HU := Lib.hid (HV.out op (List.mem_of_getElem? hop))
      have hk4 : k * 4 ≤ 52776558132480 := by omega
      clear hop
      go_wp2
      go_region_with (go_at_call 22; refine (rput_all (HO.out.drew.regs) HU.out).mono ?_; rintro e w3 ⟨⟨u, z, rfl⟩, hR3, hP3⟩; have HR3 := Lib.hid hR3; have HP3 := Lib.hid hP3; clear hR3 hP3)
      all_goals
        go_wp2
        go_roundw
        case rel => exact ⟨k + 1, by omega, by go_num, _, by first | exact HO.out.drew.step HR3.out (putAt_length _ _ _) HP3.out | exact (HO.out.drew.step HR3.out (putAt_length _ _ _) HP3.out).drew⟩
        case measure => simp [intOf]; omega
    · obtain rfl : k = ops.length := by omega
      have hws : ¬ ws = [] := by have := HO.out.regs.pos; rintro rfl; simp at this
      have HP : Hid (0 < ws.length) := Lib.hid HO.out.regs.pos
      have H3 : Hid (0 + ws.length ≤ maxLen) := Lib.hid (by have := HO.out.regs.top; unfold maxLen; omega)
      have H4 : Hid ((0 + ws.length) * 8 ≤ 140737488355328) := Lib.hid (by have := HO.out.regs.top; omega)
      go_wp2_with (first
        | (go_at_call 20; (with_reducible refine (rall_any HO.out.regs).mono ?_); rintro e w4 ⟨ba, rfl, hba, hra, hb4⟩; have HBA := Lib.hid hba; have HRA := Lib.hid hra; have HB4 := Lib.hid hb4; have HO4 := Lib.hid (HO.out.on hb4); clear hba hra hb4)
        | (go_at_call 20; (with_reducible refine (rall_any HO4.out.regs).mono ?_); rintro e w5 ⟨bb, rfl, hbb, hrb, hb5⟩; have HBB := Lib.hid hbb; have HRB := Lib.hid hrb; have HB5 := Lib.hid hb5; have HO5 := Lib.hid (HO4.out.on hb5); have HK0 : Hid ((w5.alloc (.cells #[] 60)).ownsRow w5.heap.size 60 2 (.slice (some ⟨w5.heap.size, 0, none⟩) 0 0) 0 []) := Lib.hid (own_of_row (Row.new w5 _ []) rfl (Nat.le_refl _) (Nat.zero_le _)); clear hbb hrb hb5)
        | (at_builtin; refine wpList_append_own _ rfl _ _ 41 rfl w5.heap.size 60 i0 (.agg #[.int .u32 0, .int .u32 0]) 2 8 Try.underlying41 hi hz0 hz1 hz2 rfl (by decide) _ _ _ rfl HK0.out ⟨bb, 0, none⟩ ws.length ws.length (regCells ws) rfl (regCells_length ws) (row_at (HRB.out.alloc _)) (reg_cells_one ws) H3.out H4.out (by simp) ?_; intro vk w6 hown6 hgr6 hz6; rw [Nat.zero_add, List.nil_append] at hown6; have HG6 : Hid ((w5.alloc (.cells #[] 60)).grownBy w6 (some w5.heap.size)) := Lib.hid hgr6; obtain ⟨gk, ck, rfl, hgk, hlk⟩ := own_some hown6 HP.out; have HK6 := Lib.hid hown6; have HGK := Lib.hid hgk; have HB6 : Hid (Below w5.heap.size w5 w6) := Lib.hid (((Below.refl _ _).alloc (Nat.le_refl _) _).grown HG6.out (by simp) (fun q hq => by cases hq; exact Nat.le_refl _)); have HO6 := Lib.hid (HO5.out.on HB6.out); have HRA6 := Lib.hid ((HRA.out.below HB5.out HRA.out.lt).below HB6.out (by have := HRA.out.lt; have := HB5.out.size; omega)); have HRB6 := Lib.hid (HRB.out.below HB6.out HRB.out.lt); clear hown6 hgr6 hz6 hgk hlk)
        | (go_at_call 24; refine (rscan_any HO6.out.regs (t := 2) (by omega) (by omega)).mono ?_; rintro e w7 ⟨bx, rfl, hbx, hrx, hb7⟩; have HT : Hid (OwnR W n br bk bw ws ba bb bx gk ck w7) := Lib.hid (own_begin HO6.out HRA6.out HRB6.out HK6.out HBA.out HB4.out HBB.out HB5.out HGK.out HO.out.low hbx hrx hb7 HRA.out.lt HRB.out.lt); clear hbx hrx hb7))
      clear HK0 HO5 HO4 HO6 HRA HRA6 HRB HRB6 HB4 HB5 HB6 HK6 HG6 HBA HBB HGK HO H3 H4
      have htop : ws.length ≤ 64 := HT.out.st.regs.top
      go_loopw [13] (fun i wr => ∃ k : Nat, k ≤ ws.length ∧ i = .int .i64 k ∧ OwnR W n br bk bw ws ba bb bx gk ck wr) (fun i _ => ws.length - (intOf i).toNat)
      case atStart => exact ⟨0, Nat.zero_le _, rfl, HT.out⟩
      case round =>
        obtain ⟨k, hk, rfl, hT⟩ := hrel
        have HT := Lib.hid hT
        clear hT
        by_cases hlt : k < ws.length
        · obtain ⟨la, hla, hra⟩ := HT.out.a
          obtain ⟨x0, hx0⟩ : ∃ x, la[k * 2]? = some x := ⟨_, List.getElem?_eq_getElem (by omega)⟩
          obtain ⟨x1, hx1⟩ : ∃ x, la[k * 2 + 1]? = some x := ⟨_, List.getElem?_eq_getElem (by omega)⟩
          have hc0 := (hra.cell (k * 2)).trans hx0
          have hc1 := (hra.cell (k * 2 + 1)).trans hx1
          have hf := hra.free
          have HLA := Lib.hid hla
          have HRA := Lib.hid hra
          clear hla hra hx0 hx1
          go_wp2
          go_roundw
          case rel => exact ⟨k + 1, by omega, by go_num, HT.out.stepA (l := (la.set (k * 2) (.int .u32 9)).set (k * 2 + 1) (.int .u32 9)) (by simp; exact HLA.out) ((HRA.out.set _ _).set _ _) (((Part.refl [ba] _).set (p := ⟨ba, k * 2, none⟩) (by simp) _).set (p := ⟨ba, k * 2 + 1, none⟩) (by simp) _)⟩
          case measure => simp [intOf]; omega
        · obtain rfl : k = ws.length := by omega
          go_wp2
          go_loopw [14] (fun i wr => ∃ k : Nat, k ≤ ws.length ∧ i = .int .i64 k ∧ OwnR W n br bk bw ws ba bb bx gk ck wr) (fun i _ => ws.length - (intOf i).toNat)
          case atStart => exact ⟨0, Nat.zero_le _, rfl, HT.out⟩
          case round =>
            obtain ⟨k, hk, rfl, hT⟩ := hrel
            have HT := Lib.hid hT
            clear hT
            by_cases hlt : k < ws.length
            · obtain ⟨la, hla, hra⟩ := HT.out.x
              obtain ⟨x0, hx0⟩ : ∃ x, la[k * 2]? = some x := ⟨_, List.getElem?_eq_getElem (by omega)⟩
              obtain ⟨x1, hx1⟩ : ∃ x, la[k * 2 + 1]? = some x := ⟨_, List.getElem?_eq_getElem (by omega)⟩
              have hc0 := (hra.cell (k * 2)).trans hx0
              have hc1 := (hra.cell (k * 2 + 1)).trans hx1
              have hf := hra.free
              have HLA := Lib.hid hla
              have HRA := Lib.hid hra
              clear hla hra hx0 hx1
              go_wp2
              go_roundw
              case rel => exact ⟨k + 1, by omega, by go_num, HT.out.stepX (l := (la.set (k * 2) (.int .u32 8)).set (k * 2 + 1) (.int .u32 8)) (by simp; exact HLA.out) ((HRA.out.set _ _).set _ _) (((Part.refl [bx] _).set (p := ⟨bx, k * 2, none⟩) (by simp) _).set (p := ⟨bx, k * 2 + 1, none⟩) (by simp) _)⟩
              case measure => simp [intOf]; omega
            · obtain rfl : k = ws.length := by omega
              obtain ⟨la, hla, hra⟩ := HT.out.a
              have HLA := Lib.hid hla
              have HRA := Lib.hid hra
              have HOA := Lib.hid (own_of_row (base := 0) (size := 2) hra (n := ws.length) hla (Nat.zero_le _) (by unfold maxLen; omega))
              have H3 : Hid (ws.length + 2 ≤ maxLen) := Lib.hid (by unfold maxLen; omega)
              have H4 : Hid ((ws.length + 2) * 8 ≤ 140737488355328) := Lib.hid (by omega)
              have HL : Hid (ws.length ≤ 1000000) := Lib.hid (by omega)
              have ht1 : ((ws.length : Int) + 2 == (ws.length : Int) + 2) = true := by simp
              have ht2 : (((ws.length + 2 : Nat) : Int) == (ws.length : Int) + 2) = true := by simp
              clear hla hra
              go_wp2_with (first
                | (at_builtin; refine wpList_append_own _ rfl _ _ 41 rfl 0 60 i0 (.agg #[.int .u32 0, .int .u32 0]) 2 8 Try.underlying41 hi hz0 hz1 hz2 rfl (by decide) _ _ _ rfl (HOA.out.alloc _) ⟨_, 0, none⟩ 2 2 [.int .u32 0, .int .u32 0, .int .u32 0, .int .u32 0] rfl rfl (new_cells _ _ _) noughts_one H3.out H4.out (Nat.zero_le _) ?_; intro vv w8 hown8 hgr8 hz8; obtain ⟨gv, cv, rfl, hgv, hlv⟩ := own_some hown8 (by omega); have HT8 := Lib.hid (HT.out.grown hgr8); clear hown8 hgr8 hz8 hgv hlv)
                | (go_at_call 24; refine (rscan_any HT8.out.st.regs (t := 2) (by omega) (by omega)).mono ?_; rintro e w9 ⟨by_, rfl, hby, hry, hb9⟩; have HB9 := Lib.hid hb9; have HRY := Lib.hid hry; have HT9 := Lib.hid (HT8.out.on hb9); clear hby hry hb9)
                | (go_at_call 19; (with_reducible refine (dregs_yes HT9.out.b.liesR (own_liesR HT9.out.k) rfl HL.out).mono ?_); rintro e w10 ⟨rfl, m10, rfl⟩; have HT10 := Lib.hid (HT9.out.on (Below.draws (Below.refl _ _) m10)))
                | (go_at_call 20; refine (rall_any HT10.out.st.regs).mono ?_; rintro e w11 ⟨bz, rfl, hbz, hrz, hb11⟩; have HRZ := Lib.hid hrz; have HB11 := Lib.hid hb11; have HT11 := Lib.hid (HT10.out.on hb11); clear hbz hrz hb11)
                | (go_at_call 19; (with_reducible refine (dregs_yes HRZ.out.liesR (own_liesR HT11.out.k) rfl HL.out).mono ?_); rintro e w12 ⟨rfl, m12, rfl⟩; have HT12 := Lib.hid (HT11.out.on (Below.draws (Below.refl _ _) m12)); have HRY12 := Lib.hid (((HRY.out.drewN m10).below HB11.out HRY.out.lt).drewN m12))
                | (go_at_call 19; (with_reducible refine (dregs_yes HRY12.out.liesR (own_liesR HT12.out.k) rfl HL.out).mono ?_); rintro e w13 ⟨rfl, m13, rfl⟩; have HT13 := Lib.hid (HT12.out.on (Below.draws (Below.refl _ _) m13))))
              go_ret
              exact ⟨rfl, by have := HT13.out.st.low; rwa [World.drewN_drewN] at this⟩
end Go.Proofs.Ytdadgppbpomdoaa
