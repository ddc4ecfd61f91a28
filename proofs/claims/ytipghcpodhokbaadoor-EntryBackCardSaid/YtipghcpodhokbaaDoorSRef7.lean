/- The document's own reading of a block: its slots. -/
import Derived.Test.YtipghcpodhokbaaDoorSRef6
set_option linter.unusedSimpArgs false
set_option linter.unusedVariables false
namespace Go.Proofs.YtipghcpodhokbaaDoor
open Go.RowKit WordMath SumMath
theorem run_slice3 {a : Act} {o : Oper} {u : World} {x y z : Operand} (ho : o.op = .slice 31 x (some y) (some z) none) (b off c k : Nat) (hk : k < 10) (hc : 32 ≤ c) (hx : a.eval x = .slice (some ⟨b, off, none⟩) 32 c) (hy : a.eval y = .int .i64 (2 + 3 * (k : Int))) (hz : a.eval z = .int .i64 (5 + 3 * (k : Int))) :
    (execOp a.eval o).run Tryd.prog u = .ok (.value (.slice (some ⟨b, off + (2 + k * 3), none⟩) 3 (c - (2 + k * 3)))) u := by
  have e1 : (2 + 3 * (k : Int)) = ((2 + k * 3 : Nat) : Int) := by omega
  have e2 : (5 + 3 * (k : Int)) = ((2 + k * 3 + 3 : Nat) : Int) := by omega
  have hkc : 2 + k * 3 + 3 ≤ 32 := by omega
  rw [e1] at hy
  rw [e2] at hz
  generalize 2 + k * 3 = p at *
  obtain ⟨q, hq⟩ : ∃ q, q = p + 3 := ⟨_, rfl⟩
  rw [← hq] at hz
  have h1 : (p : Int) ≤ (q : Int) := by omega
  have h1n : p ≤ q := by omega
  have h2 : (q : Int) ≤ (c : Int) := by omega
  have h3 : ¬ c = p := by omega
  have h4 : q - p = 3 := by omega
  clear e1 e2 hq hkc
  unfold execOp
  rw [ho]
  simp only [Option.map_some, Option.map_none, hx, hy, hz]
  simp [go_sem, h1, h1n, h2, h3, h4]
/-- The loop: beside the results and the geometry there is a block with the slots read so far. -/
structure Rl (w0 w : World) (P I B : Int) (g : Nat) (d : Dbl) : Prop where
  rr : Rr w0 w P I B
  blk : Db w g d
  far : w0.heap.size + 1 + 1 < g
theorem Rl.on' {w0 w w' : World} {P I B : Int} {g : Nat} {d : Dbl} (h : Rl w0 w P I B g d) (hb : On w w') : Rl w0 w' P I B g d := ⟨h.rr.on' hb, Ob.on h.blk hb, h.far⟩
theorem Rl.set {w0 w : World} {P I B : Int} {g : Nat} {d : Dbl} (h : Rl w0 w P I B g d) (k : Nat) (hk : k < d.L.length) (x : Slt) :
    Rl w0 (((w.setCell ⟨g, 1 + k * 3, none⟩ (.int .i64 x.I)).setCell ⟨g, 1 + k * 3 + 1, none⟩ (.int .u8 x.K)).setCell ⟨g, 1 + k * 3 + 2, none⟩ (.string x.S)) P I B g ⟨d.N, d.L.set k x⟩ := by
  have hf := h.far
  refine ⟨⟨Below.setCell (Below.setCell (Below.setCell h.rr.on (show w0.heap.size ≤ g by omega) _) (show w0.heap.size ≤ g by omega) _) (show w0.heap.size ≤ g by omega) _, ?_, ?_, ?_⟩, h.blk.set k hk x, hf⟩
  · exact ((Ob.setCell h.rr.geo _ _ (by show w0.heap.size ≠ g; omega)).setCell _ _ (by show w0.heap.size ≠ g; omega)).setCell _ _ (by show w0.heap.size ≠ g; omega)
  · exact ((Ob.setCell h.rr.res _ _ (by show w0.heap.size + 1 ≠ g; omega)).setCell _ _ (by show w0.heap.size + 1 ≠ g; omega)).setCell _ _ (by show w0.heap.size + 1 ≠ g; omega)
  · exact ((Ob.setCell h.rr.flt _ _ (by show w0.heap.size + 1 + 1 ≠ g; omega)).setCell _ _ (by show w0.heap.size + 1 + 1 ≠ g; omega)).setCell _ _ (by show w0.heap.size + 1 + 1 ≠ g; omega)
/-- The fault that the document's Read tells. -/
def fltV (o : Option (Nat × Int)) : Value := match o with
  | none => .agg #[.int .i64 0, .int .i64 0]
  | some (k, n) => .agg #[.int .i64 (k : Nat), .int .i64 n]
def slF (l : List Nat) (I : Int) : Value := match frst l I with
  | none => .agg #[.int .i64 0, .int .i64 0]
  | some k => .agg #[.int .i64 (2 + 3 * (k : Int)), .int .i64 7]
theorem partD_zero (l : List Nat) (n : Nat) : Dbl.c ⟨n, partL l 0⟩ = #[.int .i64 (n : Nat), .int .i64 0, .int .u8 0, .string ⟨#[]⟩, .int .i64 0, .int .u8 0, .string ⟨#[]⟩, .int .i64 0, .int .u8 0, .string ⟨#[]⟩, .int .i64 0, .int .u8 0, .string ⟨#[]⟩, .int .i64 0, .int .u8 0, .string ⟨#[]⟩, .int .i64 0, .int .u8 0, .string ⟨#[]⟩, .int .i64 0, .int .u8 0, .string ⟨#[]⟩, .int .i64 0, .int .u8 0, .string ⟨#[]⟩, .int .i64 0, .int .u8 0, .string ⟨#[]⟩, .int .i64 0, .int .u8 0, .string ⟨#[]⟩] := by rw [partL_zero]; rfl
set_option maxRecDepth 100000 in
set_option maxHeartbeats 4000000 in
theorem rread_slots (b off c : Nat) (P I B : Int) (w : World) (hg : GOK P I B) (l0 : Nat) (h0 : l0 < 18446744073709551616) (hc0 : ∀ W, On w W → W.cell? ⟨b, off, none⟩ = some (.int .u64 (l0 : Nat))) (m : Nat) (hm : l0 % 4294967296 = m) (hbig : (m : Int) ≤ B) (n : Nat) (hn : l0 % 256 = n) (hh : headN n = l0) (l1 : Nat) (hc1 : ∀ W, On w W → W.cell? ⟨b, off + 1, none⟩ = some (.int .u64 (l1 : Nat))) (hz : l1 = 0) (l : List Nat) (hl0 : l.getD 0 0 = l0) (h32 : l.length = 32) (hl : Wd l) (hr : Row w (some ⟨b, off, none⟩) l) (hcap : 32 ≤ c) (D : Dbl) (hD : (if frst l I = none then rdD l else zD) = D) (V : Value) (hV : slF l I = V) :
    Calls Tryd.prog 24 #[.slice (some ⟨b, off, none⟩) 32 c, gv P I B] w fun e w' => e = .returned (.tuple #[D.v, V]) ∧ On w w' := by
  have R0 := Lib.hid (Rr.new w P I B)
  have HG := Lib.hid hg
  have HC0 := Lib.hid hc0
  have hB1 : B ≤ 255 := hg.2.2.2
  have hB0 : 4 ≤ B := hg.2.2.1
  have wB : IntKind.u64.wrap B = B := by rw [IntKind.wrap_u64]; omega
  have hm32 : (l0 : Int).tmod 4294967296 = (m : Int) := by rw [Int.tmod_eq_emod_of_nonneg (by omega)]; omega
  have hgt : ¬ B < (m : Int) := by omega
  have n1 : n < 256 := by omega
  have hm8 : (l0 : Int).tmod 256 = (n : Int) := by rw [Int.tmod_eq_emod_of_nonneg (by omega)]; omega
  have wn : IntKind.i64.wrap (n : Int) = (n : Int) := by rw [IntKind.wrap_i64] <;> omega
  have HH := Lib.hid (fun W => rhead_calls n W n1)
  rw [hh] at HH
  have hne : (l0 : Int) = (l0 : Int) := rfl
  have HC1 := Lib.hid hc1
  have hz2 : ((l1 : Int) == 0) = true := by rw [beq_iff_eq]; omega
  have hz3 : ((l1 : Int) != 0) = false := by unfold bne; rw [hz2]; rfl
  have HD0 := Lib.hid hD
  have HV0 := Lib.hid hV
  have HL0 := Lib.hid hl0
  have H32 := Lib.hid h32
  have HL := Lib.hid hl
  have HROW := Lib.hid hr
  have hm8' : (l0 : Int) % 256 = (n : Int) := by omega
  have HNN := Lib.hid hn
  clear hg hc0 hm hbig hh hc1 hz hne hD hV hl0 h32 hl hr
  go_enter Tryd.func24, Tryd.ntmps24
  go_upto_region 1 with (fail)
  generalize ((w.alloc (.cells #[.int .i64 P, .int .i64 I, .int .i64 B] 28)).alloc (.cells #[.int .i64 0, .int .i64 0, .int .u8 0, .string ⟨#[]⟩, .int .i64 0, .int .u8 0, .string ⟨#[]⟩, .int .i64 0, .int .u8 0, .string ⟨#[]⟩, .int .i64 0, .int .u8 0, .string ⟨#[]⟩, .int .i64 0, .int .u8 0, .string ⟨#[]⟩, .int .i64 0, .int .u8 0, .string ⟨#[]⟩, .int .i64 0, .int .u8 0, .string ⟨#[]⟩, .int .i64 0, .int .u8 0, .string ⟨#[]⟩, .int .i64 0, .int .u8 0, .string ⟨#[]⟩, .int .i64 0, .int .u8 0, .string ⟨#[]⟩] 26)).alloc (.cells #[.int .i64 0, .int .i64 0] 54) = W at *
  obtain ⟨g0, g1, g2⟩ := Gb.cells R0.out.geo
  have hlg := Ob.lt R0.out.geo
  go_wp2_with (fail)
  refine (may_yes P I B _ HG.out).mono ?_
  rintro e w1 ⟨rfl, hb⟩
  have R1 := Lib.hid (R0.out.on' hb)
  clear R0 g0 g1 g2 hlg hb
  go_upto_region 3 with (fail)
  refine wp_region4 [.val (.slice (some ⟨b, off, none⟩) 32 c), .val (.int .i64 (32 : Nat)), .val (.bool false), .val (.bool false), .val (.slice (some ⟨b, off, none⟩) 32 c), .val (.pointer (some ⟨b, off, none⟩)), .val (.int .u64 (l0 : Nat)), .val (.int .u64 (m : Nat)), .val (.pointer (some ⟨w.heap.size, 2, none⟩)), .val (.int .i64 B), .val (.int .u64 B), .val (.bool false), .val (.bool false), .val (.bool false), .val (.slice (some ⟨b, off, none⟩) 32 c), .val (.pointer (some ⟨b, off, none⟩)), .val (.int .u64 (l0 : Nat)), .val (.slice (some ⟨b, off, none⟩) 32 c), .val (.pointer (some ⟨b, off, none⟩)), .val (.int .u64 (l0 : Nat)), .val (.int .u64 (n : Nat)), .val (.int .i64 (n : Nat)), .val (.int .u64 (l0 : Nat)), .val (.bool false), .val (.bool false)] (by kernel_rfl) (by kernel_rfl) (by kernel_rfl) ?steps ?rest
  case steps =>
    refine ⟨?s0, ?s1, ?s2, ?s3, ?s4, ?s5, ?s6, ?s7, ?s8, ?s9, ?s10, ?s11, ?s12, ?s13, ?s14, ?s15, ?s16, ?s17, ?s18, ?s19, ?s20, ?s21, ?s22, ?s23, ?s24, trivial⟩
    case s0 =>
      exact st4_val _ rfl (.inl rfl) fun a u hb hA hd => by
        have q0 := ev_of (show a.eval (.tmp 0) = .slice (some ⟨b, off, none⟩) 32 c from hA.eval 0 rfl)
        unfold execOp
        simp [go_sem, q0]
    case s1 =>
      exact st4_val _ rfl (.inl rfl) fun a u hb hA hd => run_len rfl _ 32 c (hd 0 15 rfl rfl _ rfl)
    case s2 =>
      exact st4_val _ rfl (.inl rfl) fun a u hb hA hd => by
        have q0 := ev_of (hd 1 16 rfl rfl _ rfl)
        unfold execOp
        simp [go_sem, q0]
    case s3 => exact st4_move 2 17 rfl (.inl rfl) rfl rfl rfl
    case s4 =>
      exact st4_val _ rfl (.inr ⟨3, 18, false, rfl, rfl, rfl, rfl⟩) fun a u hb hA hd => by
        have q0 := ev_of (show a.eval (.tmp 0) = .slice (some ⟨b, off, none⟩) 32 c from hA.eval 0 rfl)
        unfold execOp
        simp [go_sem, q0]
    case s5 =>
      exact st4_val _ rfl (.inr ⟨3, 18, false, rfl, rfl, rfl, rfl⟩) fun a u hb hA hd => run_iaddr0 rfl b off 32 c (hd 4 19 rfl rfl _ rfl) (by decide)
    case s6 =>
      exact st4_val _ rfl (.inr ⟨3, 18, false, rfl, rfl, rfl, rfl⟩) fun a u hb hA hd => run_load64 rfl ⟨b, off, none⟩ _ (hd 5 20 rfl rfl _ rfl) (HC0.out u (R1.out.on.trans hb))
    case s7 =>
      exact st4_val _ rfl (.inr ⟨3, 18, false, rfl, rfl, rfl, rfl⟩) fun a u hb hA hd => by
        have q0 := ev_of (hd 6 21 rfl rfl _ rfl)
        unfold execOp
        simp [go_sem, q0, hm32]
    case s8 =>
      exact st4_val _ rfl (.inr ⟨3, 18, false, rfl, rfl, rfl, rfl⟩) fun a u hb hA hd => by
        have q0 := ev_of (show a.eval (.tmp 3) = .pointer (some ⟨w.heap.size, 0, none⟩) from hA.eval 3 rfl)
        unfold execOp
        simp [go_sem, q0]
    case s9 =>
      exact st4_val _ rfl (.inr ⟨3, 18, false, rfl, rfl, rfl, rfl⟩) fun a u hb hA hd => by
        have q0 := ev_of (hd 8 23 rfl rfl _ rfl)
        have hc := (Gb.cells (Ob.on R1.out.geo hb)).2.2
        unfold execOp
        simp [go_sem, q0, hc]
    case s10 =>
      exact st4_val _ rfl (.inr ⟨3, 18, false, rfl, rfl, rfl, rfl⟩) fun a u hb hA hd => by
        have q0 := ev_of (hd 9 24 rfl rfl _ rfl)
        unfold execOp
        simp [go_sem, q0, wB]
    case s11 =>
      exact st4_val _ rfl (.inr ⟨3, 18, false, rfl, rfl, rfl, rfl⟩) fun a u hb hA hd => by
        have q0 := ev_of (hd 7 22 rfl rfl _ rfl)
        have q1 := ev_of (hd 10 25 rfl rfl _ rfl)
        unfold execOp
        simp [go_sem, q0, q1, hgt]
    case s12 => exact st4_val _ rfl (.inl rfl) fun a u hb hA hd => (run_pickF rfl (hd 3 18 rfl rfl _ rfl)).trans (by rw [hd 11 26 rfl rfl _ rfl])
    case s13 => exact st4_move 12 27 rfl (.inl rfl) rfl rfl rfl
    case s14 =>
      exact st4_val _ rfl (.inr ⟨13, 28, false, rfl, rfl, rfl, rfl⟩) fun a u hb hA hd => by
        have q0 := ev_of (show a.eval (.tmp 0) = .slice (some ⟨b, off, none⟩) 32 c from hA.eval 0 rfl)
        unfold execOp
        simp [go_sem, q0]
    case s15 =>
      exact st4_val _ rfl (.inr ⟨13, 28, false, rfl, rfl, rfl, rfl⟩) fun a u hb hA hd => run_iaddr0 rfl b off 32 c (hd 14 29 rfl rfl _ rfl) (by decide)
    case s16 =>
      exact st4_val _ rfl (.inr ⟨13, 28, false, rfl, rfl, rfl, rfl⟩) fun a u hb hA hd => run_load64 rfl ⟨b, off, none⟩ _ (hd 15 30 rfl rfl _ rfl) (HC0.out u (R1.out.on.trans hb))
    case s17 =>
      exact st4_val _ rfl (.inr ⟨13, 28, false, rfl, rfl, rfl, rfl⟩) fun a u hb hA hd => by
        have q0 := ev_of (show a.eval (.tmp 0) = .slice (some ⟨b, off, none⟩) 32 c from hA.eval 0 rfl)
        unfold execOp
        simp [go_sem, q0]
    case s18 =>
      exact st4_val _ rfl (.inr ⟨13, 28, false, rfl, rfl, rfl, rfl⟩) fun a u hb hA hd => run_iaddr0 rfl b off 32 c (hd 17 32 rfl rfl _ rfl) (by decide)
    case s19 =>
      exact st4_val _ rfl (.inr ⟨13, 28, false, rfl, rfl, rfl, rfl⟩) fun a u hb hA hd => run_load64 rfl ⟨b, off, none⟩ _ (hd 18 33 rfl rfl _ rfl) (HC0.out u (R1.out.on.trans hb))
    case s20 =>
      exact st4_val _ rfl (.inr ⟨13, 28, false, rfl, rfl, rfl, rfl⟩) fun a u hb hA hd => by
        have q0 := ev_of (hd 19 34 rfl rfl _ rfl)
        unfold execOp
        simp [go_sem, q0, hm8]
    case s21 =>
      exact st4_val _ rfl (.inr ⟨13, 28, false, rfl, rfl, rfl, rfl⟩) fun a u hb hA hd => by
        have q0 := ev_of (hd 20 35 rfl rfl _ rfl)
        unfold execOp
        simp [go_sem, q0, wn]
    case s22 =>
      refine st4_call _ rfl (.inr ⟨13, 28, false, rfl, rfl, rfl, rfl⟩) 18 #[.int .i64 (n : Nat)] fun a u hb hA hd => ⟨?_, (HH.out u).mono fun _ _ ⟨he, hw⟩ => ⟨he, hw ▸ On.refl _⟩⟩
      have q0 := ev_of (hd 21 36 rfl rfl _ rfl)
      unfold execOp
      simp [go_sem, q0]
    case s23 =>
      exact st4_val _ rfl (.inr ⟨13, 28, false, rfl, rfl, rfl, rfl⟩) fun a u hb hA hd => by
        have q0 := ev_of (hd 16 31 rfl rfl _ rfl)
        have q1 := ev_of (hd 22 37 rfl rfl _ rfl)
        unfold execOp
        simp [go_sem, q0, q1]
    case s24 => exact st4_val _ rfl (.inl rfl) fun a u hb hA hd => (run_pickF rfl (hd 13 28 rfl rfl _ rfl)).trans (by rw [hd 23 38 rfl rfl _ rfl])
  case rest =>
    intro vs u hb hR
    have e24 : vs 24 = .bool false := hR 24 (by decide)
    have R2 := Lib.hid (R1.out.on' hb)
    simp only [putsFrom, Act.put, List.setIfInBounds_toArray, List.set_cons_succ, List.set_cons_zero, e24]
    generalize vs 0 = z0
    generalize vs 1 = z1
    generalize vs 2 = z2
    generalize vs 3 = z3
    generalize vs 4 = z4
    generalize vs 5 = z5
    generalize vs 6 = z6
    generalize vs 7 = z7
    generalize vs 8 = z8
    generalize vs 9 = z9
    generalize vs 10 = z10
    generalize vs 11 = z11
    generalize vs 12 = z12
    generalize vs 13 = z13
    generalize vs 14 = z14
    generalize vs 15 = z15
    generalize vs 16 = z16
    generalize vs 17 = z17
    generalize vs 18 = z18
    generalize vs 19 = z19
    generalize vs 20 = z20
    generalize vs 21 = z21
    generalize vs 22 = z22
    generalize vs 23 = z23
    clear hR e24 hb R1
    have c1 := HC1.out u R2.out.on
    have c0 := HC0.out u R2.out.on
    have ha : Ob (u.alloc (.cells #[.int .i64 0, .int .i64 0, .int .u8 0, .string ⟨#[]⟩, .int .i64 0, .int .u8 0, .string ⟨#[]⟩, .int .i64 0, .int .u8 0, .string ⟨#[]⟩, .int .i64 0, .int .u8 0, .string ⟨#[]⟩, .int .i64 0, .int .u8 0, .string ⟨#[]⟩, .int .i64 0, .int .u8 0, .string ⟨#[]⟩, .int .i64 0, .int .u8 0, .string ⟨#[]⟩, .int .i64 0, .int .u8 0, .string ⟨#[]⟩, .int .i64 0, .int .u8 0, .string ⟨#[]⟩, .int .i64 0, .int .u8 0, .string ⟨#[]⟩] 26)) u.heap.size (.cells #[.int .i64 0, .int .i64 0, .int .u8 0, .string ⟨#[]⟩, .int .i64 0, .int .u8 0, .string ⟨#[]⟩, .int .i64 0, .int .u8 0, .string ⟨#[]⟩, .int .i64 0, .int .u8 0, .string ⟨#[]⟩, .int .i64 0, .int .u8 0, .string ⟨#[]⟩, .int .i64 0, .int .u8 0, .string ⟨#[]⟩, .int .i64 0, .int .u8 0, .string ⟨#[]⟩, .int .i64 0, .int .u8 0, .string ⟨#[]⟩, .int .i64 0, .int .u8 0, .string ⟨#[]⟩, .int .i64 0, .int .u8 0, .string ⟨#[]⟩] 26 (0, 0)) := Ob.new _ _
    have HA := Lib.hid ha
    have hzn : (Dbl.c ⟨n, zL⟩).size = 31 := rfl
    go_upto_region 8 with (refine wpList_store_row rfl 26 (.tmp 6) (.tmp 53) rfl u.heap.size (Dbl.c ⟨n, zL⟩) rfl rfl 26 _ HA.out (by kernel_rfl) rfl (Dbl.one _) ?_)
    have hrl : Rl w ((u.alloc (.cells #[.int .i64 0, .int .i64 0, .int .u8 0, .string ⟨#[]⟩, .int .i64 0, .int .u8 0, .string ⟨#[]⟩, .int .i64 0, .int .u8 0, .string ⟨#[]⟩, .int .i64 0, .int .u8 0, .string ⟨#[]⟩, .int .i64 0, .int .u8 0, .string ⟨#[]⟩, .int .i64 0, .int .u8 0, .string ⟨#[]⟩, .int .i64 0, .int .u8 0, .string ⟨#[]⟩, .int .i64 0, .int .u8 0, .string ⟨#[]⟩, .int .i64 0, .int .u8 0, .string ⟨#[]⟩, .int .i64 0, .int .u8 0, .string ⟨#[]⟩] 26)).setRow u.heap.size (Dbl.c ⟨n, zL⟩)) P I B u.heap.size ⟨n, partL l 0⟩ := by
      have hb := below_setRow (Below.refl u.heap.size (u.alloc (.cells #[.int .i64 0, .int .i64 0, .int .u8 0, .string ⟨#[]⟩, .int .i64 0, .int .u8 0, .string ⟨#[]⟩, .int .i64 0, .int .u8 0, .string ⟨#[]⟩, .int .i64 0, .int .u8 0, .string ⟨#[]⟩, .int .i64 0, .int .u8 0, .string ⟨#[]⟩, .int .i64 0, .int .u8 0, .string ⟨#[]⟩, .int .i64 0, .int .u8 0, .string ⟨#[]⟩, .int .i64 0, .int .u8 0, .string ⟨#[]⟩, .int .i64 0, .int .u8 0, .string ⟨#[]⟩, .int .i64 0, .int .u8 0, .string ⟨#[]⟩] 26))) (Nat.le_refl _) (Dbl.c ⟨n, zL⟩)
      have hu := Ob.lt R2.out.flt
      have hr3 := R2.out.on' (on_alloc u (.cells #[.int .i64 0, .int .i64 0, .int .u8 0, .string ⟨#[]⟩, .int .i64 0, .int .u8 0, .string ⟨#[]⟩, .int .i64 0, .int .u8 0, .string ⟨#[]⟩, .int .i64 0, .int .u8 0, .string ⟨#[]⟩, .int .i64 0, .int .u8 0, .string ⟨#[]⟩, .int .i64 0, .int .u8 0, .string ⟨#[]⟩, .int .i64 0, .int .u8 0, .string ⟨#[]⟩, .int .i64 0, .int .u8 0, .string ⟨#[]⟩, .int .i64 0, .int .u8 0, .string ⟨#[]⟩, .int .i64 0, .int .u8 0, .string ⟨#[]⟩] 26))
      have h8 := setRow_heap _ u.heap.size _ (Dbl.c ⟨n, zL⟩) 26 (0, 0) HA.out
      rw [partL_zero]
      exact ⟨⟨Below.trans hr3.on (hb.mono (by omega)), Ob.below hr3.geo hb (by omega), Ob.below hr3.res hb (by omega), Ob.below hr3.flt hb hu⟩, h8, hu⟩
    have HRL := Lib.hid hrl
    clear ha HA hzn hrl c0 c1 R2
    generalize (u.alloc (.cells #[.int .i64 0, .int .i64 0, .int .u8 0, .string ⟨#[]⟩, .int .i64 0, .int .u8 0, .string ⟨#[]⟩, .int .i64 0, .int .u8 0, .string ⟨#[]⟩, .int .i64 0, .int .u8 0, .string ⟨#[]⟩, .int .i64 0, .int .u8 0, .string ⟨#[]⟩, .int .i64 0, .int .u8 0, .string ⟨#[]⟩, .int .i64 0, .int .u8 0, .string ⟨#[]⟩, .int .i64 0, .int .u8 0, .string ⟨#[]⟩, .int .i64 0, .int .u8 0, .string ⟨#[]⟩, .int .i64 0, .int .u8 0, .string ⟨#[]⟩] 26)).setRow u.heap.size (Dbl.c ⟨n, zL⟩) = w8 at *
    generalize u.heap.size = gb at *
    go_wp2_with (fail)
    clear HC0 HC1 HH hm32 hm8 hm8' wB hz2 hz3 hgt h0 hn
    go_loopw [7] (fun i wr => ∃ k : Nat, i = .int .i64 k ∧ k ≤ 10 ∧ Hid (∀ j, j < k → decOk (rowK l j) I = true) ∧ Rl w wr P I B gb ⟨n, partL l k⟩) (fun i _ => 10 - (intOf i).toNat)
    case atStart => exact ⟨0, rfl, by decide, Lib.hid (fun j hj => absurd hj (Nat.not_lt_zero _)), HRL.out⟩
    case round =>
      obtain ⟨k, rfl, hk, hok, hrl⟩ := hrel
      have HRL2 := Lib.hid hrl
      clear hrl HRL
      by_cases hk2 : k < 10
      · have hrow : Row wr (some ⟨b, off + (2 + k * 3), none⟩) (rowK l k) := fun _ => by
          obtain ⟨ad, e, hlt, hcs⟩ := HROW.out.below HRL2.out.rr.on (by rw [H32.out]; decide)
          injection e with e
          subst e
          have hcs2 : ∀ j, j < 32 → wr.cell? ⟨b, off + j, none⟩ = some (.int .u64 ((l.getD j 0 : Nat) : Int)) := fun j hj => by
            have h := hcs j (by rw [H32.out]; exact hj)
            rwa [Addr.add_mid] at h
          refine ⟨_, rfl, hlt, fun j hj => ?_⟩
          rw [rowK_length l k H32.out hk2] at hj
          rw [Addr.add_mid, Nat.add_assoc, rowK_get l k j hj]
          exact hcs2 _ (by omega)
        have hwd := rowK_wd HL.out k
        have hle := rowK_length l k H32.out hk2
        have hcap2 : 3 ≤ c - (2 + k * 3) := by omega
        have hdc := fun W (hW : On wr W) => rdec_calls (some ⟨b, off + (2 + k * 3), none⟩) (rowK l k) (c - (2 + k * 3)) P I B W HG.out (hrow.below hW) hwd (by rw [hle]; exact hcap2)
        rw [hle] at hdc
        have w3 : IntKind.i64.wrap (3 * (k : Int)) = 3 * (k : Int) := by rw [IntKind.wrap_i64] <;> omega
        have w23 : IntKind.i64.wrap (2 + 3 * (k : Int)) = 2 + 3 * (k : Int) := by rw [IntKind.wrap_i64] <;> omega
        have w53 : IntKind.i64.wrap (5 + 3 * (k : Int)) = 5 + 3 * (k : Int) := by rw [IntKind.wrap_i64] <;> omega
        have HGB := Lib.hid HRL2.out.rr.geo
        cases hd : decOk (rowK l k) I with
        | true =>
          rw [hd, if_pos rfl] at hdc
          obtain ⟨z, hx⟩ : ∃ z, rdS (rowK l k) = z := ⟨_, rfl⟩
          rw [hx] at hdc
          have HD := Lib.hid hdc
          have HX := Lib.hid hx
          have hok2 := Lib.hid (show ∀ j, j < k + 1 → decOk (rowK l j) I = true from fun j hj => by
            by_cases h : j < k
            · exact hok.out j h
            · obtain rfl : j = k := by omega
              exact hd)
          clear hdc hx hd hrow hwd hle hcap2 hok
          go_upto_region 11 with (fail)
          refine wp_region3 z (fun k => decide (k ≤ 11) || decide (k = 13)) (fun k => decide (k = 14)) 14 [.val (.slice (some ⟨b, off, none⟩) 32 c), .val (.int .i64 (k : Nat)), .val (.int .i64 (3 * (k : Int))), .val (.int .i64 (2 + 3 * (k : Int))), .val (.int .i64 (k : Nat)), .val (.int .i64 (3 * (k : Int))), .val (.int .i64 (5 + 3 * (k : Int))), .val (.slice (some ⟨b, off + (2 + k * 3), none⟩) 3 (c - (2 + k * 3))), .val (gv P I B), .val (.tuple #[z.v, .bool true]), .val (.tuple #[z.v, .bool true]), .val z.v, .val (.bool true), .slo, .sloDone 13, .val (.bool true)] (by kernel_rfl) (by kernel_rfl) (by kernel_rfl) (by kernel_rfl) (by kernel_rfl) (by kernel_rfl) ?steps ?rest
          case steps =>
            refine ⟨?s0, ?s1, ?s2, ?s3, ?s4, ?s5, ?s6, ?s7, ?s8, ?s9, ?s10, ?s11, ?s12, ?s13, ?s14, ?s15, trivial⟩
            case s0 =>
              exact st3_val _ 59 rfl rfl rfl rfl fun a u hb hA hd => by
                have q0 := ev_of (show a.eval (.tmp 0) = .slice (some ⟨b, off, none⟩) 32 c from hA.eval 0 rfl)
                unfold execOp
                simp [go_sem, q0]
            case s1 =>
              exact st3_val _ 60 rfl rfl rfl rfl fun a u hb hA hd => by
                have q0 := ev_of (show a.eval (.tmp 7) = .int .i64 (k : Nat) from hA.eval 7 rfl)
                unfold execOp
                simp [go_sem, q0]
            case s2 =>
              exact st3_val _ 61 rfl rfl rfl rfl fun a u hb hA hd => by
                have q0 := ev_of (hd 1 60 rfl rfl _ rfl)
                unfold execOp
                simp [go_sem, q0, w3]
            case s3 =>
              exact st3_val _ 62 rfl rfl rfl rfl fun a u hb hA hd => by
                have q0 := ev_of (hd 2 61 rfl rfl _ rfl)
                unfold execOp
                simp [go_sem, q0, w23]
            case s4 =>
              exact st3_val _ 63 rfl rfl rfl rfl fun a u hb hA hd => by
                have q0 := ev_of (show a.eval (.tmp 7) = .int .i64 (k : Nat) from hA.eval 7 rfl)
                unfold execOp
                simp [go_sem, q0]
            case s5 =>
              exact st3_val _ 64 rfl rfl rfl rfl fun a u hb hA hd => by
                have q0 := ev_of (hd 4 63 rfl rfl _ rfl)
                unfold execOp
                simp [go_sem, q0, w3]
            case s6 =>
              exact st3_val _ 65 rfl rfl rfl rfl fun a u hb hA hd => by
                have q0 := ev_of (hd 5 64 rfl rfl _ rfl)
                unfold execOp
                simp [go_sem, q0, w53]
            case s7 =>
              exact st3_val _ 66 rfl rfl rfl rfl fun a u hb hA hd => run_slice3 rfl b off c k hk2 hcap (hd 0 59 rfl rfl _ rfl) (hd 3 62 rfl rfl _ rfl) (hd 6 65 rfl rfl _ rfl)
            case s8 =>
              exact st3_val _ 67 rfl rfl rfl rfl fun a u hb hA hd => run_loadG rfl w.heap.size _ _ _ (hA.eval 3 rfl) (Ob.below HGB.out hb HGB.out.lt)
            case s9 =>
              refine st3_call _ 68 rfl rfl rfl rfl rfl 23 #[.slice (some ⟨b, off + (2 + k * 3), none⟩) 3 (c - (2 + k * 3)), gv P I B] fun a u hb hA hd => ⟨?_, HD.out u hb⟩
              have q0 := ev_of (hd 7 66 rfl rfl _ rfl)
              have q1 := ev_of (hd 8 67 rfl rfl _ rfl)
              unfold execOp
              simp [go_sem, q0, q1]
            case s10 =>
              exact st3_val _ 58 rfl rfl rfl rfl fun a u hb hA hd => by
                have q0 := ev_of (hd 9 68 rfl rfl _ rfl)
                unfold execOp
                simp [go_sem, q0]
            case s11 =>
              exact st3_val _ 69 rfl rfl rfl rfl fun a u hb hA hd => by
                have q0 := ev_of (hd 10 58 rfl rfl _ rfl)
                unfold execOp
                simp [go_sem, q0, Instr.extract]
            case s12 =>
              exact st3_val _ 70 rfl rfl rfl rfl fun a u hb hA hd => by
                have q0 := ev_of (hd 10 58 rfl rfl _ rfl)
                unfold execOp
                simp [go_sem, q0, Instr.extract]
            case s13 =>
              exact st3_slo 8 rfl rfl rfl rfl rfl
            case s14 =>
              exact st3_store 13 11 8 69 rfl rfl rfl rfl rfl (by decide) rfl rfl rfl rfl rfl rfl
            case s15 =>
              exact st3_val _ 9 rfl rfl rfl rfl fun a u hb hA hd => by
                have q0 := ev_of (hd 12 70 rfl rfl _ rfl)
                unfold execOp
                simp [go_sem, q0]
          case rest =>
            intro vs u hb hR
            obtain ⟨g2, e13, hg2, hs2⟩ := hR 14 (by decide)
            have e15 := hR 15 (by decide)
            replace e15 : vs 15 = .bool true := e15
            have R4 := Lib.hid (HRL2.out.on' hb)
            have HS2 := Lib.hid hs2
            simp only [putsFrom, Act.put, List.setIfInBounds_toArray, List.set_cons_succ, List.set_cons_zero, e13, e15]
            generalize vs 0 = z0
            generalize vs 1 = z1
            generalize vs 2 = z2
            generalize vs 3 = z3
            generalize vs 4 = z4
            generalize vs 5 = z5
            generalize vs 6 = z6
            generalize vs 7 = z7
            generalize vs 8 = z8
            generalize vs 9 = z9
            generalize vs 10 = z10
            generalize vs 11 = z11
            generalize vs 12 = z12
            generalize vs 14 = z14
            clear hR e13 e15 hb HRL2 HGB HD w3 w23 w53 hs2 hg2
            obtain ⟨x0, x1, x2⟩ := Sb.cells HS2.out
            obtain ⟨y0, y1, y2⟩ := Db.cells R4.out.blk k (by show k < (partL l k).length; rw [partL_length]; exact hk2)
            have fz := Db.frozen R4.out.blk
            have l1 := Ob.lt HS2.out
            have l2 := Ob.lt R4.out.blk
            go_wp2_with (fail)
            go_roundw
            case rel =>
              refine ⟨k + 1, by go_num, by omega, hok2, ?_⟩
              rw [← partL_succ l k hk2, HX.out]
              exact R4.out.set k (by show k < (partL l k).length; rw [partL_length]; exact hk2) z
            case measure => simp [intOf]; omega
        | false =>
          rw [hd, if_neg (by decide)] at hdc
          obtain ⟨z, hz⟩ : ∃ z, zS = z := ⟨_, rfl⟩
          rw [hz] at hdc
          have HD := Lib.hid hdc
          have hfr := frst_some hk2 hok.out hd
          have hD2 : D = zD := by rw [← HD0.out, hfr]; rfl
          have hV2 : V = .agg #[.int .i64 (2 + 3 * (k : Int)), .int .i64 7] := by rw [← HV0.out]; unfold slF; rw [hfr]
          subst hD2 hV2
          clear hdc hz hd hrow hwd hle hcap2 hok hfr HD0 HV0
          go_upto_region 11 with (fail)
          refine wp_region3 z (fun k => decide (k ≤ 11) || decide (k = 13)) (fun k => decide (k = 14)) 14 [.val (.slice (some ⟨b, off, none⟩) 32 c), .val (.int .i64 (k : Nat)), .val (.int .i64 (3 * (k : Int))), .val (.int .i64 (2 + 3 * (k : Int))), .val (.int .i64 (k : Nat)), .val (.int .i64 (3 * (k : Int))), .val (.int .i64 (5 + 3 * (k : Int))), .val (.slice (some ⟨b, off + (2 + k * 3), none⟩) 3 (c - (2 + k * 3))), .val (gv P I B), .val (.tuple #[z.v, .bool false]), .val (.tuple #[z.v, .bool false]), .val z.v, .val (.bool false), .slo, .sloDone 13, .val (.bool false)] (by kernel_rfl) (by kernel_rfl) (by kernel_rfl) (by kernel_rfl) (by kernel_rfl) (by kernel_rfl) ?steps ?rest
          case steps =>
            refine ⟨?s0, ?s1, ?s2, ?s3, ?s4, ?s5, ?s6, ?s7, ?s8, ?s9, ?s10, ?s11, ?s12, ?s13, ?s14, ?s15, trivial⟩
            case s0 =>
              exact st3_val _ 59 rfl rfl rfl rfl fun a u hb hA hd => by
                have q0 := ev_of (show a.eval (.tmp 0) = .slice (some ⟨b, off, none⟩) 32 c from hA.eval 0 rfl)
                unfold execOp
                simp [go_sem, q0]
            case s1 =>
              exact st3_val _ 60 rfl rfl rfl rfl fun a u hb hA hd => by
                have q0 := ev_of (show a.eval (.tmp 7) = .int .i64 (k : Nat) from hA.eval 7 rfl)
                unfold execOp
                simp [go_sem, q0]
            case s2 =>
              exact st3_val _ 61 rfl rfl rfl rfl fun a u hb hA hd => by
                have q0 := ev_of (hd 1 60 rfl rfl _ rfl)
                unfold execOp
                simp [go_sem, q0, w3]
            case s3 =>
              exact st3_val _ 62 rfl rfl rfl rfl fun a u hb hA hd => by
                have q0 := ev_of (hd 2 61 rfl rfl _ rfl)
                unfold execOp
                simp [go_sem, q0, w23]
            case s4 =>
              exact st3_val _ 63 rfl rfl rfl rfl fun a u hb hA hd => by
                have q0 := ev_of (show a.eval (.tmp 7) = .int .i64 (k : Nat) from hA.eval 7 rfl)
                unfold execOp
                simp [go_sem, q0]
            case s5 =>
              exact st3_val _ 64 rfl rfl rfl rfl fun a u hb hA hd => by
                have q0 := ev_of (hd 4 63 rfl rfl _ rfl)
                unfold execOp
                simp [go_sem, q0, w3]
            case s6 =>
              exact st3_val _ 65 rfl rfl rfl rfl fun a u hb hA hd => by
                have q0 := ev_of (hd 5 64 rfl rfl _ rfl)
                unfold execOp
                simp [go_sem, q0, w53]
            case s7 =>
              exact st3_val _ 66 rfl rfl rfl rfl fun a u hb hA hd => run_slice3 rfl b off c k hk2 hcap (hd 0 59 rfl rfl _ rfl) (hd 3 62 rfl rfl _ rfl) (hd 6 65 rfl rfl _ rfl)
            case s8 =>
              exact st3_val _ 67 rfl rfl rfl rfl fun a u hb hA hd => run_loadG rfl w.heap.size _ _ _ (hA.eval 3 rfl) (Ob.below HGB.out hb HGB.out.lt)
            case s9 =>
              refine st3_call _ 68 rfl rfl rfl rfl rfl 23 #[.slice (some ⟨b, off + (2 + k * 3), none⟩) 3 (c - (2 + k * 3)), gv P I B] fun a u hb hA hd => ⟨?_, HD.out u hb⟩
              have q0 := ev_of (hd 7 66 rfl rfl _ rfl)
              have q1 := ev_of (hd 8 67 rfl rfl _ rfl)
              unfold execOp
              simp [go_sem, q0, q1]
            case s10 =>
              exact st3_val _ 58 rfl rfl rfl rfl fun a u hb hA hd => by
                have q0 := ev_of (hd 9 68 rfl rfl _ rfl)
                unfold execOp
                simp [go_sem, q0]
            case s11 =>
              exact st3_val _ 69 rfl rfl rfl rfl fun a u hb hA hd => by
                have q0 := ev_of (hd 10 58 rfl rfl _ rfl)
                unfold execOp
                simp [go_sem, q0, Instr.extract]
            case s12 =>
              exact st3_val _ 70 rfl rfl rfl rfl fun a u hb hA hd => by
                have q0 := ev_of (hd 10 58 rfl rfl _ rfl)
                unfold execOp
                simp [go_sem, q0, Instr.extract]
            case s13 =>
              exact st3_slo 8 rfl rfl rfl rfl rfl
            case s14 =>
              exact st3_store 13 11 8 69 rfl rfl rfl rfl rfl (by decide) rfl rfl rfl rfl rfl rfl
            case s15 =>
              exact st3_val _ 9 rfl rfl rfl rfl fun a u hb hA hd => by
                have q0 := ev_of (hd 12 70 rfl rfl _ rfl)
                unfold execOp
                simp [go_sem, q0]
          case rest =>
            intro vs u hb hR
            obtain ⟨g2, e13, hg2, hs2⟩ := hR 14 (by decide)
            have e15 := hR 15 (by decide)
            replace e15 : vs 15 = .bool false := e15
            have R4 := Lib.hid (HRL2.out.on' hb).rr
            simp only [putsFrom, Act.put, List.setIfInBounds_toArray, List.set_cons_succ, List.set_cons_zero, e13, e15]
            generalize vs 0 = z0
            generalize vs 1 = z1
            generalize vs 2 = z2
            generalize vs 3 = z3
            generalize vs 4 = z4
            generalize vs 5 = z5
            generalize vs 6 = z6
            generalize vs 7 = z7
            generalize vs 8 = z8
            generalize vs 9 = z9
            generalize vs 10 = z10
            generalize vs 11 = z11
            generalize vs 12 = z12
            generalize vs 14 = z14
            clear hR e13 e15 hb HRL2 HGB HD w3 w23 w53 hs2 hg2
            go_upto_region 13 with (fail)
            go_wp2_with (first
              | (refine wpList_store_row rfl 26 (.tmp 4) (.tmp 73) rfl (w.heap.size + 1) zD.c rfl rfl 26 _ R4.out.res (by kernel_rfl) rfl (Dbl.one _) ?_)
              | (refine wpList_store_row rfl 54 (.tmp 5) (.tmp 77) rfl (w.heap.size + 1 + 1) #[.int .i64 (2 + 3 * (k : Int)), .int .i64 7] rfl rfl 54 _ (R4.out.flt2 zD) (by kernel_rfl) rfl (two_one _ _) ?_))
            obtain ⟨q1, q2, q3⟩ := R4.out.fin zD (2 + 3 * (k : Int)) 7
            exact bodyPost_ret (results_row_row rfl _ _ (w.heap.size + 1) zD.c (w.heap.size + 1 + 1) #[.int .i64 (2 + 3 * (k : Int)), .int .i64 7] rfl rfl (run_loadVar_row (P := Tryd.prog) _ (w.heap.size + 1) 26 26 _ (0, 0) _ q1 Tryd.underlying26 rfl (by kernel_rfl)) (run_loadVar_row (P := Tryd.prog) _ (w.heap.size + 1 + 1) 54 54 _ (0, 0) _ q2 Tryd.underlying54 rfl (by kernel_rfl))) rfl ⟨rfl, q3⟩
      · obtain rfl : k = 10 := by omega
        have hfr := frst_none hok.out
        have hD2 : D = ⟨n, partL l 10⟩ := by
          rw [← HD0.out, if_pos hfr, partL_all, ← HNN.out, ← HL0.out]
          rfl
        have hV2 : V = .agg #[.int .i64 0, .int .i64 0] := by rw [← HV0.out]; unfold slF; rw [hfr]
        subst hD2 hV2
        have hdz := Dbl.size (b := ⟨n, partL l 10⟩) (partL_length l 10)
        have HDZ := Lib.hid hdz
        have R4 := Lib.hid HRL2.out.rr
        have HBL := Lib.hid HRL2.out.blk
        clear HD0 HV0 hfr hok hdz HRL2
        go_wp2_with (first
          | (refine wpList_load_row rfl 26 (.tmp 6) rfl gb rfl 26 (Dbl.c ⟨n, partL l 10⟩) (0, 0) _ HBL.out Tryd.underlying26 rfl (by rw [HDZ.out]; kernel_rfl) ?_)
          | (refine wpList_store_row rfl 26 (.tmp 4) (.tmp 82) rfl (w.heap.size + 1) (Dbl.c ⟨n, partL l 10⟩) rfl rfl 26 _ R4.out.res (by rw [HDZ.out]; kernel_rfl) (by rw [HDZ.out]; rfl) (Dbl.one _) ?_)
          | (refine wpList_store_row rfl 54 (.tmp 5) (.tmp 83) rfl (w.heap.size + 1 + 1) #[.int .i64 0, .int .i64 0] rfl rfl 54 _ (R4.out.flt2 ⟨n, partL l 10⟩) (by kernel_rfl) rfl (two_one _ _) ?_))
        obtain ⟨q1, q2, q3⟩ := R4.out.fin ⟨n, partL l 10⟩ 0 0
        exact bodyPost_ret (results_row_row rfl _ _ (w.heap.size + 1) (Dbl.c ⟨n, partL l 10⟩) (w.heap.size + 1 + 1) #[.int .i64 0, .int .i64 0] rfl rfl (run_loadVar_row (P := Tryd.prog) _ (w.heap.size + 1) 26 26 _ (0, 0) _ q1 Tryd.underlying26 rfl (by rw [HDZ.out]; kernel_rfl)) (run_loadVar_row (P := Tryd.prog) _ (w.heap.size + 1 + 1) 54 54 _ (0, 0) _ q2 Tryd.underlying54 rfl (by kernel_rfl))) rfl ⟨rfl, q3⟩
end Go.Proofs.YtipghcpodhokbaaDoor
/- What the document's Read hands back, of any words. -/
namespace Go.Proofs.YtipghcpodhokbaaDoor
open Go.RowKit WordMath SumMath
theorem headN_low {l0 : Nat} (h : headN ((l0 % 256 : Nat) : Int) = l0) : l0 % 4294967296 = l0 % 256 := by
  unfold headN at h
  simp at h
  omega
theorem rread_calls (A : Option Addr) (l : List Nat) (c : Nat) (P I B : Int) (w : World) (hr : Row w A l) (hl : Wd l) (hcap : l.length ≤ c) :
    Calls Tryd.prog 24 #[.slice A l.length c, gv P I B] w fun e w' => e = .returned (.tuple #[(decD l P I B).v, fltV (badD l P I B)]) ∧ On w w' := by
  by_cases hg : GOK P I B
  · by_cases h32 : l.length = 32
    · have hr0 := hr
      obtain ⟨⟨b, off, sp⟩, rfl, hbl, hcs⟩ := hr (by rw [h32]; decide)
      have c0 := hcs 0 (by rw [h32]; decide)
      obtain rfl : sp = none := spot_none (w := w) (b := b) (off := off) c0
      have hcell : ∀ j, j < 32 → ∀ W, On w W → W.cell? ⟨b, off + j, none⟩ = some (.int .u64 ((l.getD j 0 : Nat) : Int)) := fun j hj W hW => by
        have h := hcs j (by rw [h32]; exact hj)
        rw [Addr.add_mid] at h
        exact (Below.cell hW (p := ⟨b, off + j, none⟩) hbl).trans h
      have hc0 := hcell 0 (by decide)
      have hc1 := hcell 1 (by decide)
      rw [h32]
      have hcap2 : 32 ≤ c := by omega
      by_cases hbig : B < ((l.getD 0 0 % 4294967296 : Nat) : Int)
      · have hho : headOk l B = false := by
          rw [Bool.eq_false_iff]
          intro h
          unfold headOk at h
          simp only [Bool.and_eq_true, decide_eq_true_eq] at h
          have := headN_low h.1.symm
          omega
        have e1 : badD l P I B = some (0, 7) := by unfold badD; rw [if_neg (by simpa using hg), if_pos (.inr hho)]
        have e2 : decD l P I B = zD := by unfold decD; rw [e1]; rfl
        rw [e1, e2]
        exact rread_big b off c P I B w hg _ (hl 0) hc0 _ rfl hbig
      · have hbig : ((l.getD 0 0 % 4294967296 : Nat) : Int) ≤ B := by omega
        by_cases hh : headN ((l.getD 0 0 % 256 : Nat) : Int) = l.getD 0 0
        · have hho : headOk l B = true := by
            unfold headOk
            have := headN_low hh
            rw [decide_eq_true hh.symm, decide_eq_true (by omega)]; rfl
          by_cases h1 : l.getD 1 0 = 0
          · have e2 : decD l P I B = if frst l I = none then rdD l else zD := by
              unfold decD
              by_cases hf : frst l I = none
              · rw [if_pos hf, if_pos (badD_none.2 ⟨hg, h32, hho, h1, hf⟩)]
              · rw [if_neg hf, if_neg (fun h => hf (badD_none.1 h).2.2.2.2)]
            have e1 : fltV (badD l P I B) = slF l I := by
              unfold badD slF
              rw [if_neg (by simpa using hg), if_neg (by simp [h32, hho]), if_neg (by simpa using h1)]
              cases frst l I with
              | none => rfl
              | some k =>
                show Value.agg #[.int .i64 ((2 + k * 3 : Nat) : Int), .int .i64 7] = _
                have : ((2 + k * 3 : Nat) : Int) = 2 + 3 * (k : Int) := by omega
                rw [this]
            rw [e1]
            exact rread_slots b off c P I B w hg _ (hl 0) hc0 _ rfl hbig _ rfl hh _ hc1 h1 l rfl h32 hl hr0 hcap2 _ e2.symm _ rfl
          · have e1 : badD l P I B = some (1, 7) := by unfold badD; rw [if_neg (by simpa using hg), if_neg (by simp [h32, hho]), if_pos h1]
            have e2 : decD l P I B = zD := by unfold decD; rw [e1]; rfl
            rw [e1, e2]
            exact rread_rest b off c P I B w hg _ (hl 0) hc0 _ rfl hbig _ rfl hh _ hc1 h1
        · have hho : headOk l B = false := by unfold headOk; rw [decide_eq_false (fun h => hh h.symm)]; rfl
          have e1 : badD l P I B = some (0, 7) := by unfold badD; rw [if_neg (by simpa using hg), if_pos (.inr hho)]
          have e2 : decD l P I B = zD := by unfold decD; rw [e1]; rfl
          rw [e1, e2]
          exact rread_head b off c P I B w hg _ (hl 0) hc0 _ rfl hbig _ rfl _ rfl hh
    · have e1 : badD l P I B = some (0, 7) := by unfold badD; rw [if_neg (by simpa using hg), if_pos (.inl h32)]
      have e2 : decD l P I B = zD := by unfold decD; rw [e1]; rfl
      rw [e1, e2]
      exact rread_len A l.length c P I B w hg h32
  · have e1 : badD l P I B = some (0, 2) := by unfold badD; rw [if_pos hg]
    have e2 : decD l P I B = zD := by unfold decD; rw [e1]; rfl
    rw [e1, e2]
    exact rread_geom A l.length c P I B w hg
end Go.Proofs.YtipghcpodhokbaaDoor
