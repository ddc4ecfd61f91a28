/- The document's own words of a slot. -/
import Derived.Test.YtipghcpodhokbaaDoorSRef1
import Derived.Test.YtipghcpodhokbaaDoorPackT
import Derived.Test.YtipghcpodhokbaaDoorSumT
set_option linter.unusedSimpArgs false
set_option linter.unusedVariables false
namespace Go.Proofs.YtipghcpodhokbaaDoor
open Go.RowKit WordMath SumMath
/-- The slot's block, a row of three words behind it. -/
structure Rw (w0 w : World) (b : Nat) (x : Slt) (l : List Nat) : Prop where
  on : Below b w0 w
  slo : Sb w b x
  row : Blk 36 w (b + 1) l
theorem Rw.on' {w0 w w' : World} {b : Nat} {x : Slt} {l : List Nat} (h : Rw w0 w b x l) (hb : On w w') : Rw w0 w' b x l :=
  ⟨h.on.trans (Below.mono hb (Nat.le_of_lt (Ob.lt h.slo))), Ob.on h.slo hb, Ob.on h.row hb⟩
theorem Rw.set {w0 w : World} {b : Nat} {x : Slt} {l : List Nat} (h : Rw w0 w b x l) (k v : Nat) : Rw w0 (w.setCell ⟨b + 1, k, none⟩ (.int .u64 (v : Nat))) b x (l.set k v) :=
  ⟨Below.setCell h.on (Nat.le_succ b) _, Ob.setCell h.slo _ _ (by show b ≠ b + 1; omega), h.row.set k v⟩
theorem make_three (w : World) : (Instr.makeSlice 31 (.int .i64 3) (.int .i64 3)).run Tryd.prog w = .ok (.slice (some ⟨w.heap.size, 0, none⟩) 3 3) (w.alloc (.cells #[.int .u64 0, .int .u64 0, .int .u64 0] 36)) := by kernel_rfl
theorem Rw.new (w : World) (x : Slt) : Rw w ((w.alloc (.cells x.c 23)).alloc (.cells #[.int .u64 0, .int .u64 0, .int .u64 0] 36)) w.heap.size x [0, 0, 0] := by
  refine ⟨on_two _ _ _, (Ob.new w _).alloc _, ?_⟩
  have h := Ob.new (w.alloc (.cells x.c 23)) (.cells #[.int .u64 0, .int .u64 0, .int .u64 0] 36)
  rw [World.size_alloc] at h
  exact h
/-- What the document's Encode hands back. -/
def GivesOwn (l : List Nat) (w : World) (e : Ending) (w' : World) : Prop :=
  ∃ g, e = .returned (.slice (some ⟨g, 0, none⟩) 3 3) ∧ Blk 36 w' g l ∧ w.heap.size ≤ g ∧ On w w'
set_option maxRecDepth 100000 in
set_option maxHeartbeats 2000000 in
theorem rencode_zero (x : Slt) (w : World) (hz : x.I = 0) : Calls Tryd.prog 16 #[x.v] w (GivesOwn [0, 0, 0] w) := by
  have h0 := Rw.new w x
  have hfin : GivesOwn [0, 0, 0] w (.returned (.slice (some ⟨w.heap.size + 1, 0, none⟩) 3 3)) ((w.alloc (.cells x.c 23)).alloc (.cells #[.int .u64 0, .int .u64 0, .int .u64 0] 36)) := ⟨_, rfl, h0.row, Nat.le_succ _, h0.on⟩
  have HF := Lib.hid hfin
  have mk := make_three
  have hz2 : (x.I == 0) = true := by rw [beq_iff_eq]; exact hz
  clear h0 hfin hz
  go_enter Tryd.func16, Tryd.ntmps16
  go_wp2_with (fail)
  go_ret
  exact HF.out
theorem take_drop_set {t : List Nat} {k : Nat} (h : k < t.length) (h2 : t.length ≤ 2) : (t.take k ++ [0, 0, 0].drop k).set k (t.getD k 0) = t.take (k + 1) ++ [0, 0, 0].drop (k + 1) := by
  match t, h2 with
  | [], _ => simp at h
  | [a], _ =>
    obtain rfl : k = 0 := by simpa using h
    rfl
  | [a, b], _ =>
    match k, h with
    | 0, _ => rfl
    | 1, _ => rfl
set_option maxRecDepth 100000 in
set_option maxHeartbeats 4000000 in
theorem rencode_go (i k : Nat) (s : ByteArray) (w : World) (hi : i < 256) (hi0 : 0 < i) (hk : k < 256) (h1 : 1 ≤ s.size) (h2 : s.size ≤ 16) (p0 p1 t c tc : Nat) (e0 : pw s 0 = p0) (e1 : pw s 1 = p1) (et : i + 256 * k + 65536 * s.size = t) (ec : crcN p0 p1 t = c) (htc : t + 4294967296 * c = tc) :
    Calls Tryd.prog 16 #[Slt.v ⟨i, k, s⟩] w (GivesOwn [p0, p1, tc] w) := by
  have HW := Lib.hid (Rw.new w ⟨i, k, s⟩)
  have mk := make_three
  have hz2 : ((i : Int) == 0) = false := by rw [beq_eq_false_iff_ne]; omega
  obtain ⟨q1, q2, q3⟩ := pack_fill s h1 h2
  rw [e0, e1] at q1
  have hps := fun W => rpack_calls s W (by omega)
  have hpw : Wd (packL s.data.toList) := pack_wd s.data.toList _ (Nat.le_refl _)
  generalize packL s.data.toList = l at *
  have Q1 := Lib.hid q1
  have HP := Lib.hid hps
  have HE0 := Lib.hid e0
  have HE1 := Lib.hid e1
  have HET := Lib.hid et
  have HEC := Lib.hid ec
  have HTC := Lib.hid htc
  clear q1 hps e0 e1 et ec htc
  go_enter Tryd.func16, Tryd.ntmps16
  go_upto_region 2 with (fail)
  generalize (w.alloc (.cells (Slt.c ⟨i, k, s⟩) 23)).alloc (.cells #[.int .u64 0, .int .u64 0, .int .u64 0] 36) = W at *
  obtain ⟨x0, x1, x2⟩ := Sb.cells HW.out.slo
  have hl := Ob.lt HW.out.slo
  go_wp2_with (fail)
  refine (HP.out _).mono ?_
  rintro e w2 ⟨A, cA, rfl, hr, hfr, hb⟩
  have HW2 := Lib.hid (HW.out.on' hb)
  have hge : ∀ ad, A = some ad → w.heap.size + 1 < ad.block := fun ad e => by
    obtain ⟨g, rfl, hg⟩ := hfr ad e
    have h := Blk.lt HW.out.row
    show w.heap.size + 1 < g
    omega
  obtain ⟨ad, rfl, hlt, hcs⟩ := hr q2
  obtain ⟨g, rfl, _⟩ := hfr ad rfl
  have hg := hge _ rfl
  replace hg : w.heap.size + 1 < g := hg
  have hrow : Row w2 (some ⟨g, 0, none⟩) l := hr
  have HRO := Lib.hid hrow
  clear HW hb x0 x1 x2 hl hfr hge hr hcs hlt HP hrow
  go_wp2_with (fail)
  go_loopw [5] (fun i' wr => ∃ j : Nat, i' = .int .i64 j ∧ j ≤ l.length ∧ Row wr (some ⟨g, 0, none⟩) l ∧ Rw w wr w.heap.size ⟨i, k, s⟩ (l.take j ++ [0, 0, 0].drop j)) (fun i' _ => l.length - (intOf i').toNat)
  case atStart => exact ⟨0, rfl, by omega, HRO.out, HW2.out⟩
  case round =>
    obtain ⟨j, rfl, hj, hrw, hW⟩ := hrel
    by_cases hj2 : j < l.length
    · obtain ⟨ad, e, hlt, hcs⟩ := hrw q2
      injection e with e
      subst e
      have c0 := hcs j hj2
      rw [add_zero_block] at c0
      have b0 := hW.row.cell j (by simp; omega)
      have f0 := hW.row.frozen j
      have l1 := Blk.lt hW.row
      have hset := Lib.hid (take_drop_set hj2 q3)
      have HW3 := Lib.hid (hW.set j (l.getD j 0))
      have hrw2 : Row (wr.setCell ⟨w.heap.size + 1, j, none⟩ (.int .u64 ((l.getD j 0 : Nat) : Int))) (some ⟨g, 0, none⟩) l := fun h0 => by
        refine ⟨_, rfl, by simpa using hlt, fun m hm => ?_⟩
        rw [World.cell?_setCell_other _ _ _ _ (by rw [add_zero_block]; intro e; injection e with e; omega)]
        exact hcs m hm
      have HRW2 := Lib.hid hrw2
      clear hrw hcs hW hrw2
      generalize l.getD j 0 = v at *
      go_wp2_with (fail)
      go_roundw
      case rel => exact ⟨j + 1, by go_num, by omega, HRW2.out, by rw [← hset.out]; exact HW3.out⟩
      case measure => simp [intOf]; omega
    · obtain rfl : j = l.length := by omega
      have hQ := Q1.out
      rw [List.take_length, hQ] at hW
      have HB := Lib.hid hW
      clear hW hrw hQ HW2 HRO mk
      obtain ⟨x0, x1, x2⟩ := Sb.cells HB.out.slo
      obtain ⟨b0, b1, b2⟩ := Blk.cells3 HB.out.row
      have fz := HB.out.row.frozen
      have l1 := Ob.lt HB.out.slo
      have l2 := Blk.lt HB.out.row
      go_upto_region 10 with (fail)
      have het : ((i : Int) + (k : Int) * 256 + (s.size : Int) * 65536) = ((t : Nat) : Int) := by have h := HET.out; omega
      rw [het]
      have hB2 := HB.out.set 2 t
      have hB2 : Rw w (wr.setCell ⟨w.heap.size + 1, 2, none⟩ (.int .u64 (t : Nat))) w.heap.size ⟨i, k, s⟩ [p0, p1, t] := hB2
      have HB2 := Lib.hid hB2
      clear hB2 HB x0 x1 x2 b0 b1 b2 fz l1 l2 het
      generalize wr.setCell ⟨w.heap.size + 1, 2, none⟩ (.int .u64 (t : Nat)) = ws at *
      have hp0 := pw_lt s 0
      have hp1 := pw_lt s 1
      rw [HE0.out] at hp0
      rw [HE1.out] at hp1
      have ht : t < 4294967296 := by have := HET.out; omega
      have hwd : Wd [p0, p1, t] := fun j => by
        match j with
        | 0 => exact hp0
        | 1 => exact hp1
        | 2 => show t < _; omega
        | j + 3 => simp
      have htx : txtV [p0, p1, t] 20 = ⟨(textL [p0, p1, t] 20).toArray⟩ ∧ txtE [p0, p1, t] 20 = 0 := ⟨txtV_yes ⟨by decide, by simp⟩, txtE_yes ⟨by decide, by simp⟩⟩
      have hcr : moreV 0 (bytesN (txtV [p0, p1, t] 20).data.toList) = c := by rw [htx.1, ← HEC.out]; rfl
      have hsz : (txtV [p0, p1, t] 20).size ≤ 1099511627776 := by rw [htx.1]; show (textL [p0, p1, t] 20).toArray.size ≤ _; simp [textL]
      have hte := htx.2
      have hc2 : c < 4294967296 := by rw [← HEC.out]; exact crcN_lt _ _ _
      have htc : ∀ W, Row W (some ⟨w.heap.size + 1, 0, none⟩) [p0, p1, t] → Calls Tryd.prog 34 #[.slice (some ⟨w.heap.size + 1, 0, none⟩) 3 3, .int .i64 20] W (GivesText (txtV [p0, p1, t] 20) 0 W) := fun W hr => by
        have h := rtext_calls (some ⟨w.heap.size + 1, 0, none⟩) [p0, p1, t] 3 20 W (by decide) (by decide) hr hwd (by simp)
        rw [hte] at h
        exact h
      have hof := fun W => rof_calls (txtV [p0, p1, t] 20) W hsz
      rw [hcr] at hof
      generalize txtV [p0, p1, t] 20 = tx at *
      have HTX := Lib.hid htc
      have HOF := Lib.hid hof
      clear htx hcr hte htc hof
      go_wp2_with (fail)
      refine (HTX.out _ (Blk.row HB2.out.row)).mono ?_
      rintro e wt ⟨rfl, hb⟩
      have HB := Lib.hid (HB2.out.on' hb)
      clear HB2 hb HTX
      go_upto_region 11 with (fail)
      have wc : IntKind.u64.wrap (c : Int) = (c : Int) := by rw [IntKind.wrap_u64]; omega
      have wsh : IntKind.u64.wrap ((c : Int) * 4294967296) = ((c : Int) * 4294967296) := by rw [IntKind.wrap_u64]; omega
      have wad : IntKind.u64.wrap ((t : Int) + ((c : Int) * 4294967296)) = ((tc : Nat) : Int) := by rw [IntKind.wrap_u64]; have h := HTC.out; omega
      refine wp_region5 (w.heap.size + 1) (.cells (wv [p0, p1, tc]).toArray 36 (0, 0)) 10 [.val (.slice (some ⟨w.heap.size + 1, 0, none⟩) 3 3), .val (.slice (some ⟨w.heap.size + 1, 0, none⟩) 3 3), .val (.pointer (some ⟨w.heap.size + 1, 2, none⟩)), .val (.int .u64 (t : Nat)), .val (.string tx), .val (.int .u32 (c : Nat)), .val (.int .u64 (c : Nat)), .val (.int .u64 ((c : Int) * 4294967296)), .val (.int .u64 (tc : Nat)), .val (.pointer (some ⟨w.heap.size + 1, 2, none⟩)), .done] (by kernel_rfl) (by kernel_rfl) (by kernel_rfl) (by kernel_rfl) ?steps ?rest
      case steps =>
        refine ⟨?s0, ?s1, ?s2, ?s3, ?s4, ?s5, ?s6, ?s7, ?s8, ?s9, ?s10, trivial⟩
        case s0 =>
          exact st2_val _ rfl rfl (by decide) (by decide) fun a u hb hA hd => by
            have q0 := ev_of (show a.eval (.tmp 3) = .slice (some ⟨w.heap.size + 1, 0, none⟩) 3 3 from hA.eval 3 rfl)
            unfold execOp
            simp [go_sem, q0]
        case s1 =>
          exact st2_val _ rfl rfl (by decide) (by decide) fun a u hb hA hd => by
            have q0 := ev_of (show a.eval (.tmp 3) = .slice (some ⟨w.heap.size + 1, 0, none⟩) 3 3 from hA.eval 3 rfl)
            unfold execOp
            simp [go_sem, q0]
        case s2 =>
          exact st2_val _ rfl rfl (by decide) (by decide) fun a u hb hA hd => run_iaddr 2 rfl (w.heap.size + 1) 0 3 3 (hd 1 51 rfl rfl _ rfl) (by decide)
        case s3 =>
          exact st2_val _ rfl rfl (by decide) (by decide) fun a u hb hA hd => run_load64 rfl ⟨w.heap.size + 1, 2, none⟩ _ (hd 2 52 rfl rfl _ rfl) (Blk.cells3 (Ob.on HB.out.row hb)).2.2
        case s4 =>
          exact st2_val _ rfl rfl (by decide) (by decide) fun a u hb hA hd => by
            have q0 := ev_of (show a.eval (.tmp 6) = .string tx from hA.eval 6 rfl)
            unfold execOp
            simp [go_sem, q0]
        case s5 =>
          refine st2_call _ rfl rfl (by decide) (by decide) 35 #[.string tx] fun a u hb hA hd => ⟨?_, (HOF.out u).mono fun _ _ ⟨he, hw⟩ => ⟨he, hw ▸ On.refl _⟩⟩
          have q0 := ev_of (hd 4 54 rfl rfl _ rfl)
          unfold execOp
          simp [go_sem, q0]
        case s6 =>
          exact st2_val _ rfl rfl (by decide) (by decide) fun a u hb hA hd => by
            have q0 := ev_of (hd 5 55 rfl rfl _ rfl)
            unfold execOp
            simp [go_sem, q0, wc]
        case s7 =>
          exact st2_val _ rfl rfl (by decide) (by decide) fun a u hb hA hd => by
            have q0 := ev_of (hd 6 56 rfl rfl _ rfl)
            unfold execOp
            simp [go_sem, q0, wsh]
        case s8 =>
          exact st2_val _ rfl rfl (by decide) (by decide) fun a u hb hA hd => by
            have q0 := ev_of (hd 3 53 rfl rfl _ rfl)
            have q1 := ev_of (hd 7 57 rfl rfl _ rfl)
            unfold execOp
            simp [go_sem, q0, q1, wad]
        case s9 =>
          exact st2_val _ rfl rfl (by decide) (by decide) fun a u hb hA hd => run_iaddr 2 rfl (w.heap.size + 1) 0 3 3 (hd 0 50 rfl rfl _ rfl) (by decide)
        case s10 =>
          exact st2_store rfl rfl rfl fun a u hb hA hd => by
            have hB : Blk 36 u (w.heap.size + 1) [p0, p1, t] := Ob.on HB.out.row hb
            have hc := (Blk.cells3 hB).2.2
            have hf := hB.frozen 2
            refine ⟨u.setCell ⟨w.heap.size + 1, 2, none⟩ (.int .u64 (tc : Nat)), ?_, Only.setCell (F := fun k => k = w.heap.size + 1) (Only.refl _ _) (.inl rfl) _, hB.set 2 tc⟩
            have q0 := ev_of (hd 9 59 rfl rfl _ rfl)
            have q1 := ev_of (hd 8 58 rfl rfl _ rfl)
            unfold execOp
            simp [go_sem, q0, q1, hc, hf]
      case rest =>
        intro vs u hT hR
        have h10 : Blk 36 u (w.heap.size + 1) [p0, p1, tc] := hR 10 (by decide)
        have hon : On w u := ⟨hT.only.os.trans HB.out.on.os, hT.only.tape.trans HB.out.on.tape, hT.only.output.trans HB.out.on.output, Nat.le_trans HB.out.on.size hT.only.size, fun j hj => (hT.only.block j (Nat.lt_of_lt_of_le hj HB.out.on.size) (by omega)).trans (HB.out.on.block j hj)⟩
        have hfin : GivesOwn [p0, p1, tc] w (.returned (.slice (some ⟨w.heap.size + 1, 0, none⟩) 3 3)) u := ⟨_, rfl, h10, Nat.le_succ _, hon⟩
        have HF := Lib.hid hfin
        simp only [putsFrom, Act.put, List.setIfInBounds_toArray, List.set_cons_succ, List.set_cons_zero]
        generalize vs 0 = y0
        generalize vs 1 = y1
        generalize vs 2 = y2
        generalize vs 3 = y3
        generalize vs 4 = y4
        generalize vs 5 = y5
        generalize vs 6 = y6
        generalize vs 7 = y7
        generalize vs 8 = y8
        generalize vs 9 = y9
        generalize vs 10 = y10
        clear hR hT h10 hon hfin HB HOF wc wsh wad
        go_wp2_with (fail)
        go_ret
        exact HF.out
theorem rencode_calls (x : Slt) (w : World) (I : Int) (hI : I ≤ 64) (hx : okS x I = true) : Calls Tryd.prog 16 #[x.v] w (GivesOwn (slW x) w) := by
  cases hz : isZ x with
  | true =>
    have e : slW x = [0, 0, 0] := by unfold slW; rw [if_pos hz]
    rw [e]
    have := isZ_eq.1 hz
    subst this
    exact rencode_zero _ w rfl
  | false =>
    have hf := okS_fit hx hI
    have e : slW x = [pw x.S 0, pw x.S 1, tailN x + 4294967296 * crcN (pw x.S 0) (pw x.S 1) (tailN x)] := by unfold slW; rw [if_neg (by rw [hz]; decide)]
    rw [e]
    unfold okS at hx
    rw [hz, Bool.false_or] at hx
    unfold fullB at hx
    simp only [Bool.and_eq_true, decide_eq_true_eq] at hx
    have h1 := hx.2.2.1.1
    have hi0 := hx.1.1
    clear hx
    obtain ⟨i, k, s⟩ := x
    obtain ⟨⟨i0, i1⟩, ⟨k0, k1⟩, s1⟩ := hf
    simp only at i0 i1 k0 k1 s1 h1 hi0
    obtain ⟨i, rfl⟩ := Int.eq_ofNat_of_zero_le i0
    obtain ⟨k, rfl⟩ := Int.eq_ofNat_of_zero_le k0
    exact rencode_go i k s w (by omega) (by omega) (by omega) h1 s1 _ _ _ _ _ rfl rfl rfl rfl rfl
end Go.Proofs.YtipghcpodhokbaaDoor
