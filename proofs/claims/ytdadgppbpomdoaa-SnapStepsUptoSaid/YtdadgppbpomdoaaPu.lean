/- THE WALK of the statements' own 'under'. -/
import Derived.Test.YtdadgppbpomdoaaPt
import Derived.Deep.AppendLies
namespace Go.Proofs.Ytdadgppbpomdoaa
open Go Go.RowKit

/-- registers of the call's own, operations on them that are under way: vp has their addresses, vk what they are; X: other blocks -/
structure ManyQ (W : World) (n br bk bw : Nat) (ws : List Int) (os : List OpQ) (bs : List Nat) (Fs : List (List Nat)) (vp vk : Value) (X : List Nat) (wr : World) : Prop where
  st : SnSt W n br bk bw ws wr
  ps : wr.ownsRow W.heap.size 31 1 vp bs.length (ptrs bs)
  ks : wr.ownsRow W.heap.size 37 4 vk bs.length (kindQ os)
  pends : PendsQ wr W.heap.size bk n (br :: bk :: bw :: (vp.ownBlock.toList ++ vk.ownBlock.toList ++ X)) os bs Fs
section
variable {W wr w1 w5 w6 w7 : World} {n br bk bw : Nat} {ws : List Int} {os : List OpQ} {bs X : List Nat} {Fs : List (List Nat)} {vp vk vp' vk' : Value}
theorem ManyQ.on (h : ManyQ W n br bk bw ws os bs Fs vp vk X wr) (hb : Below wr.heap.size wr w1) : ManyQ W n br bk bw ws os bs Fs vp vk X w1 :=
  ⟨h.st.on hb, own_part h.ps (Part.of_below hb (Nat.le_refl _) []) (by simp), own_part h.ks (Part.of_below hb (Nat.le_refl _) []) (by simp), h.pends.below hb⟩
theorem ManyQ.nil (h : SnSt W n br bk bw ws wr) : ManyQ W n br bk bw ws [] [] [] (.slice none 0 0) (.slice none 0 0) [] wr :=
  ⟨h, World.ownsRow_nil _ _ _ _, World.ownsRow_nil _ _ _ _, PendsQ.nil _ _ _ _ (fun x hx => by
    simp [Value.ownBlock] at hx
    rcases hx with rfl | rfl | rfl
    · exact h.regs.head.lt
    · exact h.regs.words.head.lt
    · exact h.regs.words.row.lt)⟩
theorem SnSt.grown {base m size : Nat} {e : TypeId} {v : Value} {xs : List Value} (h : SnSt W n br bk bw ws wr) (hv : wr.ownsRow base e size v m xs) (hbase : W.heap.size ≤ base) (hg : wr.grownBy w1 v.ownBlock)
    (n1 : e ≠ 78) (n2 : e ≠ 94) (n3 : e ≠ 108) : SnSt W n br bk bw ws w1 :=
  ⟨⟨h.regs.head.grown hg (own_not_in hv h.regs.head n1), ⟨h.regs.words.head.grown hg (own_not_in hv h.regs.words.head n2), h.regs.words.row.grown hg (own_not_in hv h.regs.words.row n3), h.regs.words.few, h.regs.words.ok⟩, h.regs.pos, h.regs.top⟩, h.len, h.lo,
    h.low.grown hg h.low.size (fun q hq => Nat.le_trans hbase (own_from hv q hq))⟩
theorem grown_part {w w' : World} {row : Option Nat} (hg : w.grownBy w' row) : Part row.toList w w' := ⟨hg.os, hg.tape, hg.output, hg.size, fun q hq hn => hg.block q hq (fun e => hn (by rw [← e]; simp))⟩
theorem PendsQ.regrow {w w' : World} {lo g : Nat} {Y : List Nat} {row : Option Nat} (h : PendsQ w lo bk n X os bs Fs) (hg : w.grownBy w' row) (hrow : ∀ q, row = some q → q ∈ X) (hat : row = some g ∨ g = w.heap.size) (hgl : g < w'.heap.size) (hY : ∀ y ∈ Y, y ∈ X ∨ y = g) : PendsQ w' lo bk n Y os bs Fs := by
  refine (h.onX (grown_part hg) (fun q hq => hrow q (by simpa using hq))).withX (fun y hy => ?_)
  rcases hY y hy with hx | rfl
  · exact .inl hx
  · rcases hat with e | e
    · exact .inl (hrow y e)
    · right
      exact ⟨fun F hF hm => by have := (h.lt hF hm).2; omega, hgl⟩
theorem ManyQ.grow {op : OpQ} {bp g6 c6 g7 c7 : Nat} {ob ob' : Obj} (h : ManyQ W n br bk bw ws os bs Fs vp vk X wr) (hb5 : Below wr.heap.size wr w5) (hq : PendQ w5 W.heap.size bk n bp op [bp]) (hn : wr.heap.size ≤ bp) (ho : OkQ n op)
    (h6 : w6.ownsRow W.heap.size 31 1 (.slice (some ⟨g6, 0, none⟩) (bs.length + 1) c6) (bs.length + 1) (ptrs bs ++ [.pointer (some ⟨bp, 0, none⟩)])) (hg6 : (w5.alloc ob).grownBy w6 vp.ownBlock) (hat6 : vp.ownBlock = some g6 ∨ g6 = (w5.alloc ob).heap.size)
    (h7 : w7.ownsRow W.heap.size 37 4 (.slice (some ⟨g7, 0, none⟩) (bs.length + 1) c7) (bs.length + 1) (kindQ os ++ [.int .u8 op.k, .int .i64 op.r, .int .u32 op.v, .int .i64 op.t])) (hg7 : (w6.alloc ob').grownBy w7 vk.ownBlock) (hat7 : vk.ownBlock = some g7 ∨ g7 = (w6.alloc ob').heap.size) :
    ManyQ W n br bk bw ws (os ++ [op]) (bs ++ [bp]) (Fs ++ [[bp]]) (.slice (some ⟨g6, 0, none⟩) (bs.length + 1) c6) (.slice (some ⟨g7, 0, none⟩) (bs.length + 1) c7) X w7 := by
  have h5 := h.on hb5
  have st5 := h5.st.on ((Below.refl _ _).alloc (Nat.le_refl _) ob)
  have ps5 := h5.ps.alloc ob
  have ks5 := h5.ks.alloc ob
  have st6 := st5.grown ps5 (Nat.le_refl _) hg6 (by decide) (by decide) (by decide)
  have ks6 := ks5.kept hg6 (own_apart ks5 ps5 (by decide))
  have st7 := (st6.on ((Below.refl _ _).alloc (Nat.le_refl _) ob')).grown (ks6.alloc ob') (Nat.le_refl _) hg7 (by decide) (by decide) (by decide)
  have ps7 := (h6.alloc ob').kept hg7 (own_apart (h6.alloc ob') (ks6.alloc ob') (by decide))
  have p5 := (h.pends.snoc hb5 hq hn ho).below ((Below.refl _ _).alloc (Nat.le_refl _) ob)
  have p6 : PendsQ w6 W.heap.size bk n (br :: bk :: bw :: g6 :: (vk.ownBlock.toList ++ X)) (os ++ [op]) (bs ++ [bp]) (Fs ++ [[bp]]) := p5.regrow hg6 (fun q e => by simp [e]) hat6 (own_block h6 g6 rfl) (fun y hy => by
    simp at hy ⊢
    rcases hy with e | e | e | e | e | e
    · exact .inl (.inl e)
    · exact .inl (.inr (.inl e))
    · exact .inl (.inr (.inr (.inl e)))
    · exact .inr e
    · exact .inl (.inr (.inr (.inr (.inr (.inl e)))))
    · exact .inl (.inr (.inr (.inr (.inr (.inr e))))))
  have p7 : PendsQ w7 W.heap.size bk n (br :: bk :: bw :: g6 :: g7 :: X) (os ++ [op]) (bs ++ [bp]) (Fs ++ [[bp]]) := (p6.below ((Below.refl _ _).alloc (Nat.le_refl _) ob')).regrow hg7 (fun q e => by simp [e]) hat7 (own_block h7 g7 rfl) (fun y hy => by
    simp at hy ⊢
    rcases hy with e | e | e | e | e | e
    · exact .inl (.inl e)
    · exact .inl (.inr (.inl e))
    · exact .inl (.inr (.inr (.inl e)))
    · exact .inl (.inr (.inr (.inr (.inl e))))
    · exact .inr e
    · exact .inl (.inr (.inr (.inr (.inr (.inr e))))))
  refine ⟨st7, ?_, ?_, p7⟩
  · rw [List.length_append, List.length_singleton, ← ptrs_snoc]
    exact ps7
  · rw [List.length_append, List.length_singleton, ← kindQ_snoc]
    exact h7
end
theorem infoPP : (Try.prog.info? 31).map (fun i => (i.zero, i.size, i.bytes)) = some (some (.pointer none), 1, 8) := by kernel_rfl
theorem infoSO : (Try.prog.info? 37).map (fun i => (i.zero, i.size, i.bytes)) = some (some (.agg #[.int .u8 0, .int .i64 0, .int .u32 0, .int .i64 0]), 4, 32) := by kernel_rfl
theorem pendQ_new {w : World} {lo bk n bp : Nat} {op : Int × Int × Int × Int} (hr : rightS n op.1 op.2.1 op.2.2.1 op.2.2.2 = true) (hn : 0 < n) (hlo : lo ≤ bp)
    (h1 : op.1 = 1 → Row w bp 82 (pendP bk 1 op.2.1 op.2.2.1 0 (fnV 30) 0 nilS nilS 0 nilS false 0)) (h2 : op.1 = 2 → Row w bp 82 (pendP bk 2 op.2.1 0 0 (fnV 31) 0 nilS nilS 0 nilS false 0)) (h3 : op.1 = 3 → Row w bp 82 (pendP bk 3 0 0 op.2.2.2 (fnV 32) 0 nilS nilS 0 nilS false 0)) :
    PendQ w lo bk n bp (newQ op) [bp] := by
  simp only [rightS, Bool.or_eq_true, Bool.and_eq_true, beq_iff_eq, decide_eq_true_eq] at hr
  have hk : op.1 = 1 ∨ op.1 = 2 ∨ op.1 = 3 := by
    rcases hr with (h | h) | h
    · exact .inl h.1.1.1
    · exact .inr (.inl h.1.1.1.1)
    · exact .inr (.inr h.1.1.1.1)
  obtain ⟨l, hl⟩ : ∃ l, Row w bp 82 l := by
    rcases hk with e | e | e
    · exact ⟨_, h1 e⟩
    · exact ⟨_, h2 e⟩
    · exact ⟨_, h3 e⟩
  exact ⟨by simp, fun q hq => by simp at hq; subst hq; exact ⟨hlo, hl.lt⟩, fun e _ => ⟨0, h1 e⟩, fun _ e => by simp [newQ] at e, fun e _ => h2 e, fun e _ => ⟨nilS, nilS, ⟨h3 e, World.ownsRow_nil _ _ _ _, World.ownsRow_nil _ _ _ _, .inl rfl⟩, fun q e => (by cases e), fun q e => (by cases e), .inl ⟨rfl, rfl⟩, by simpa [newQ] using hn, by simp [newQ]⟩, fun e => by simp [newQ] at e, by simp [newQ], ⟨l, hl⟩⟩
set_option maxRecDepth 100000
/-- Start, of an operation that is right -/
theorem pstart_op {w : World} {br bk bw n lo : Nat} {ws : List Int} {op : Int × Int × Int × Int} (h : Regs w br bk bw ws) (hn : ws.length = n) (hlo : lo ≤ w.heap.size) (hr : rightS n op.1 op.2.1 op.2.2.1 op.2.2.2 = true) :
    Calls Try.prog 12 #[.pointer (some ⟨br, 0, none⟩), .agg #[.int .u8 op.1, .int .i64 op.2.1, .int .u32 op.2.2.1, .int .i64 op.2.2.2]] w fun e w' => ∃ bp, e = .returned (.tuple #[.pointer (some ⟨bp, 0, none⟩), .int .i64 0]) ∧ w.heap.size ≤ bp ∧ PendQ w' lo bk n bp (newQ op) [bp] ∧ Below w.heap.size w w' := by
  have hpos := h.pos
  have hr0 := hr
  subst hn
  obtain ⟨k, r, v, t⟩ := op
  simp only [rightS, Bool.or_eq_true, Bool.and_eq_true, beq_iff_eq, decide_eq_true_eq] at hr
  rcases hr with (⟨⟨⟨h1, h2⟩, h3⟩, h4⟩ | ⟨⟨⟨⟨h1, h2⟩, h3⟩, h4⟩, h5⟩) | ⟨⟨⟨⟨h1, h2⟩, h3⟩, h4⟩, h5⟩
  · subst h1
    subst h4
    refine (pstart_put r v h hr0).mono ?_
    rintro e w' ⟨bp, rfl, hb, hrow, hbl⟩
    exact ⟨bp, rfl, hb, pendQ_new hr0 hpos (by omega) (fun _ => hrow) (fun e => by simp at e) (fun e => by simp at e), hbl⟩
  · subst h1
    subst h4
    subst h5
    refine (pstart_get r h hr0).mono ?_
    rintro e w' ⟨bp, rfl, hb, hrow, hbl⟩
    exact ⟨bp, rfl, hb, pendQ_new hr0 hpos (by omega) (fun e => by simp at e) (fun _ => hrow) (fun e => by simp at e), hbl⟩
  · subst h1
    subst h2
    subst h3
    refine (pstart_scan t h hr0).mono ?_
    rintro e w' ⟨bp, rfl, hb, hrow, hbl⟩
    exact ⟨bp, rfl, hb, pendQ_new hr0 hpos (by omega) (fun e => by simp at e) (fun e => by simp at e) (fun _ => hrow), hbl⟩
theorem four_cells (k i y t : Int) : ∀ u ∈ [Value.int .u8 k, .int .i64 i, .int .u32 y, .int .i64 t], u.oneCell' = true := by
  intro u hu
  simp at hu
  rcases hu with rfl | rfl | rfl | rfl <;> rfl
/-- what 'under' leaves -/
def UnderTo (W : World) (w : World) (n br bk bw : Nat) (ws : List Int) (ops : List (Int × Int × Int × Int)) (e : Ending) (w' : World) : Prop :=
  ∃ vp vk bs Fs, e = .returned (.tuple #[vp, vk]) ∧ ManyQ W n br bk bw ws (pickQ n ops) bs Fs vp vk [] w'
set_option maxHeartbeats 3200000 in
theorem under_any {W w : World} {n br bk bw cap : Nat} {ws : List Int} {A : Option Addr} {ops : List (Int × Int × Int × Int)} (h : SnSt W n br bk bw ws w) (hE : Ext4 .u8 .i64 .u32 .i64 W A ops) (hv : ∀ op ∈ ops, U32 op.2.2.1) (hr : ops.length * 32 ≤ 140737488351232) :
    Calls Try.prog 26 #[.pointer (some ⟨br, 0, none⟩), .slice A ops.length cap] w (UnderTo W w n br bk bw ws ops) := by
  obtain ⟨ip, hip, hp0, hp1, hp2⟩ := info_parts infoPP
  obtain ⟨ik, hik, hk0, hk1, hk2⟩ := info_parts infoSO
  have HE := Lib.hid hE
  have HV := Lib.hid hv
  have H := Lib.hid h
  clear hE h hv
  go_enter Try.func26, Try.ntmps26
  go_wp2
  go_loopw [6, 7, 8] (fun vp vk i wr => ∃ j : Nat, j ≤ ops.length ∧ i = .int .i64 j ∧ ∃ bs Fs, ManyQ W n br bk bw ws (pickQ n (ops.take j)) bs Fs vp vk [] wr) (fun _ _ i _ => ops.length - (intOf i).toNat)
  case atStart => exact ⟨0, Nat.zero_le _, rfl, [], [], ManyQ.nil H.out⟩
  case round =>
    obtain ⟨j, hj, rfl, bs, Fs, hS⟩ := hrel
    have HS := Lib.hid hS
    clear hS
    by_cases hlt : j < ops.length
    · obtain ⟨op, hop⟩ : ∃ op, ops[j]? = some op := ⟨ops[j], List.getElem?_eq_getElem hlt⟩
      obtain ⟨b, o, rfl, hbl, e0, e1, e2, e3⟩ := HE.out j _ hop
      have HB := Lib.hid hbl
      have f0 := (HS.out.st.low.cell (p := ⟨b, o + j * 4, none⟩) hbl).trans e0
      have f1 := (HS.out.st.low.cell (p := ⟨b, o + j * 4 + 1, none⟩) hbl).trans e1
      have f2 := (HS.out.st.low.cell (p := ⟨b, o + j * 4 + 2, none⟩) hbl).trans e2
      have f3 := (HS.out.st.low.cell (p := ⟨b, o + j * 4 + 3, none⟩) hbl).trans e3
      have HT := Lib.hid (pickQ_take n ops hop)
      have E0 := Lib.hid e0
      have E1 := Lib.hid e1
      have E2 := Lib.hid e2
      have E3 := Lib.hid e3
      have HU := Lib.hid (HV.out op (List.mem_of_getElem? hop))
      have HLS := Lib.hid (HS.out.pends.len)
      have HPL := Lib.hid (pickQ_length n (ops.take j))
      have HLEN := Lib.hid HS.out.st.len
      have hj4 : j * 4 ≤ 52776558132480 := by omega
      clear hop hbl e0 e1 e2 e3
      cases hb : rightS n op.1 op.2.1 op.2.2.1 op.2.2.2 with
      | false =>
        have HR : Hid (rightS ws.length op.1 op.2.1 op.2.2.1 op.2.2.2 = false) := Lib.hid (by rw [HLEN.out]; exact hb)
        have HRn := Lib.hid hb
        clear hb
        go_wp2_with (go_at_call 12; refine (pstart_no HS.out.st.regs HR.out).mono ?_; rintro e w5 ⟨rfl, hb5⟩; have HB5 := Lib.hid hb5; clear hb5)
        go_roundw
        case rel => exact ⟨j + 1, by omega, by go_num, bs, Fs, by rw [HT.out, HRn.out, if_neg (by simp), List.append_nil]; exact HS.out.on HB5.out⟩
        case measure => simp [intOf]; omega
      | true =>
        have HRn := Lib.hid hb
        clear hb
        have HLL : Hid (bs.length + 1 ≤ ops.length) := Lib.hid (by have h1 := HLS.out; have h2 := HPL.out; rw [List.length_take] at h2; omega)
        have H3 : Hid (bs.length + 1 ≤ maxLen) := Lib.hid (by have := HLL.out; unfold maxLen; omega)
        have H4 : Hid ((bs.length + 1) * 8 ≤ 140737488355328) := Lib.hid (by have := HLL.out; omega)
        have H6 : Hid ((bs.length + 1) * 32 ≤ 140737488355328) := Lib.hid (by have := HLL.out; omega)
        go_wp2_with (first
          | (go_at_call 12; refine (pstart_op (lo := W.heap.size) HS.out.st.regs HLEN.out HS.out.st.low.size HRn.out).mono ?_; rintro e w5 ⟨bp, rfl, hn5, hr5, hb5⟩; have HB5 := Lib.hid hb5; have HN5 := Lib.hid hn5; have HR5 := Lib.hid hr5; have HS5 := Lib.hid (HS.out.on hb5); have H5 : Hid (W.heap.size ≤ (w5.alloc (.cells #[.pointer (some ⟨bp, 0, none⟩)] 31)).heap.size) := Lib.hid (by have := HS5.out.st.low.size; simp; omega); clear hb5 hn5 hr5)
          | (at_builtin; refine wpList_append_lies _ rfl _ _ 30 rfl W.heap.size 31 ip (.pointer none) 1 8 Try.underlying30 hip hp0 hp1 hp2 rfl (by decide) _ _ _ rfl (HS5.out.ps.alloc _) ⟨w5.heap.size, 0, none⟩ 1 1 [.pointer (some ⟨bp, 0, none⟩)] rfl rfl (new_cells _ _ _) (one_ptr _) (by omega) H3.out H4.out H5.out _ rfl ?_; intro g6 c6 w6 hown6 hgr6 hat6 _; have HO6 := Lib.hid hown6; have HG6 := Lib.hid hgr6; have HAT6 := Lib.hid hat6; have hlow6 := (HS5.out.st.low.alloc HS5.out.st.low.size _).grown hgr6 H5.out (own_from HS5.out.ps); have g0 := (hlow6.cell (p := ⟨b, o + j * 4, none⟩) HB.out).trans E0.out; have g1 := (hlow6.cell (p := ⟨b, o + j * 4 + 1, none⟩) HB.out).trans E1.out; have g2 := (hlow6.cell (p := ⟨b, o + j * 4 + 2, none⟩) HB.out).trans E2.out; have g3 := (hlow6.cell (p := ⟨b, o + j * 4 + 3, none⟩) HB.out).trans E3.out; have KS6 := Lib.hid ((HS5.out.ks.alloc _).kept hgr6 (own_apart HS5.out.ks HS5.out.ps (by decide))); have H7 : Hid (W.heap.size ≤ (w6.alloc (.cells #[.int .u8 op.1, .int .i64 op.2.1, .int .u32 op.2.2.1, .int .i64 op.2.2.2] 37)).heap.size) := Lib.hid (by have := hlow6.size; simp; omega); clear hown6 hgr6 hat6 hlow6)
          | (at_builtin; refine wpList_append_lies _ rfl _ _ 22 rfl W.heap.size 37 ik (.agg #[.int .u8 0, .int .i64 0, .int .u32 0, .int .i64 0]) 4 32 Try.underlying22 hik hk0 hk1 hk2 rfl (by decide) _ _ _ rfl (KS6.out.alloc _) ⟨w6.heap.size, 0, none⟩ 1 1 [.int .u8 op.1, .int .i64 op.2.1, .int .u32 op.2.2.1, .int .i64 op.2.2.2] rfl rfl (new_cells _ _ _) (four_cells _ _ _ _) (by omega) H3.out H6.out H7.out _ rfl ?_; intro g7 c7 w7 hown7 hgr7 hat7 _; have HO7 := Lib.hid hown7; have HG7 := Lib.hid hgr7; have HAT7 := Lib.hid hat7; clear hown7 hgr7 hat7))
        go_roundw
        case rel => exact ⟨j + 1, by omega, by go_num, bs ++ [bp], Fs ++ [[bp]], by rw [HT.out, HRn.out, if_pos rfl]; exact HS.out.grow HB5.out HR5.out HN5.out (newQ_ok HRn.out HU.out) HO6.out HG6.out HAT6.out HO7.out HG7.out HAT7.out⟩
        case measure => simp [intOf]; omega
    · obtain rfl : j = ops.length := by omega
      go_wp2
      go_ret2
      have := HS.out
      rw [List.take_length] at this
      exact ⟨_, _, bs, Fs, rfl, this⟩
end Go.Proofs.Ytdadgppbpomdoaa
