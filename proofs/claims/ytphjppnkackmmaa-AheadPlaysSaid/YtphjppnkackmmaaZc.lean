/- The program's table: Put. -/
import Derived.Test.YtphjppnkackmmaaZb
set_option linter.unusedSimpArgs false
set_option linter.unusedVariables false
namespace Go.Proofs.Ytphjppnkackmmaa
open Go Go.Maps Go.RowKit SumMath WordMath
theorem getD_mem {L : List Re} {k : Nat} (hk : k < L.length) : L.getD k re0 ∈ L := by
  rw [List.getD_eq_getElem?_getD, List.getElem?_eq_getElem hk]; exact List.getElem_mem hk
theorem negB_yes {L : List Re} {k : Nat} (hk : k < L.length) (h : (L.getD k re0).pos < 0) : negB L = true := by
  unfold negB
  rw [List.any_eq_true]
  exact ⟨_, getD_mem hk, decide_eq_true h⟩
def NNTo (L : List Re) (k : Nat) : Prop := ∀ j, j < k → 0 ≤ (L.getD j re0).pos
theorem NNTo.more {L : List Re} {k : Nat} (h : NNTo L k) (e : 0 ≤ (L.getD k re0).pos) : NNTo L (k + 1) := fun j hj => by
  by_cases h1 : j < k
  · exact h j h1
  · obtain rfl : j = k := by omega
    exact e
theorem negB_no {L : List Re} (h : NNTo L L.length) : negB L = false := by
  unfold negB
  rw [List.any_eq_false]
  intro e he
  obtain ⟨k, hk, rfl⟩ := List.getElem_of_mem he
  have := h k hk
  rw [List.getD_eq_getElem?_getD, List.getElem?_eq_getElem hk] at this
  have h2 : 0 ≤ (L[k]).pos := this
  rw [decide_eq_true_eq]
  omega
theorem puts_take {T L : List Re} {k : Nat} (h : k < L.length) : putsT T (L.take (k + 1)) = putT (putsT T (L.take k)) (L.getD k re0) := by
  rw [take_more h, puts_snoc]
theorem puts_len {L : List Re} : ∀ {T : List Re}, Rise T → (putsT T L).length ≤ T.length + L.length := by
  induction L with
  | nil => intro T _; exact Nat.le_refl _
  | cons x r ih =>
    intro T h
    have h1 := ih (h.put x)
    have h2 := len_put h x
    have : (putT T x).length ≤ T.length + 1 := by rw [h2]; split <;> omega
    show (putsT (putT T x) r).length ≤ _
    rw [List.length_cons]
    omega
theorem grown_refl (w : World) (row : Option Nat) : w.grownBy w row := ⟨rfl, rfl, rfl, Nat.le_refl _, fun _ _ _ => rfl⟩
theorem grown_below {w w' : World} (h : Below w.heap.size w w') (row : Option Nat) : w.grownBy w' row := ⟨h.os, h.tape, h.output, h.size, fun k hk _ => h.block k hk⟩
theorem grown_trans {w w1 w2 : World} {b : Nat} (h : w.grownBy w1 (some b)) (k : w1.grownBy w2 (some b)) : w.grownBy w2 (some b) := h.andThen k fun j e => .inr e
set_option maxRecDepth 100000 in
theorem put_calls {w : World} {g b : Nat} {T : List Re} (h : Ah w g b T) (A : Option Addr) (L : List Re) (c : Nat) (ha : Cel w A (ev L)) (hn : RN L) (hsz : T.length + L.length ≤ 1099511627776) :
    Calls Try.prog 10 #[.pointer (some ⟨g, 0, none⟩), .slice A L.length c] w fun e w' => e = .returned (.int .i64 (putE L)) ∧ Ah w' g b (putR T L) ∧ w.grownBy w' (some b) := by
  obtain ⟨n, hLn⟩ : ∃ n, L.length = n := ⟨_, rfl⟩
  have HL := Lib.hid hLn
  rw [hLn]
  rw [hLn] at hsz
  have HH := Lib.hid h
  have HN := Lib.hid hn
  clear hLn h hn
  go_enter Try.func10, Try.ntmps10
  go_wp2_with (fail)
  go_loopw [13] (fun i wr => ∃ k : Nat, i = .int .i64 k ∧ k ≤ n ∧ Hid (NNTo L k) ∧ Hid (Below w.heap.size w wr)) (fun i _ => n - (intOf i).toNat)
  case atStart => exact ⟨0, rfl, by omega, Lib.hid (fun j hj => absurd hj (by omega)), Lib.hid (Below.refl _ _)⟩
  case round =>
    obtain ⟨k, rfl, hk, hs, hBr⟩ := hrel
    by_cases h1 : k < n
    · have har := ha.below hBr.out
      obtain ⟨b1, o1, rfl, hlb, hca⟩ := har.re (by rw [HL.out]; omega)
      obtain ⟨e1, e2⟩ := hca k (by rw [HL.out]; exact h1)
      have hL1 : k < L.length := by rw [HL.out]; exact h1
      clear hca har
      by_cases hp : (L.getD k re0).pos < 0
      · have KV := Lib.hid (negB_yes hL1 hp)
        clear hL1
        generalize (L.getD k re0).pos = p at *
        generalize (L.getD k re0).word = x at *
        go_wp2_with (fail)
        go_ret
        have hb2 := hBr.out.alloc hBr.out.size (.cells #[.int .i64 p, .int .u64 (x : Int)] 38)
        refine ⟨?_, ?_, grown_below hb2 _⟩
        · unfold putE; rw [KV.out]; rfl
        · unfold putR; rw [KV.out]; exact HH.out.below hb2
      · have KV := Lib.hid (hs.out.more (by omega))
        clear hL1
        generalize (L.getD k re0).pos = p at *
        generalize (L.getD k re0).word = x at *
        go_wp2_with (fail)
        go_roundw
        case rel => exact ⟨k + 1, by go_num, by omega, KV, Lib.hid (hBr.out.alloc hBr.out.size _)⟩
        case measure => simp [intOf]; omega
    · obtain rfl : n = k := by omega
      have KV := Lib.hid (negB_no (by rw [HL.out]; exact hs.out))
      have HW := Lib.hid (ha.below hBr.out)
      have HA2 := Lib.hid (HH.out.below hBr.out)
      have hgl := HA2.out.ltg
      clear ha hs
      go_wp2_with (fail)
      go_loopw [23] (fun i wx => ∃ k : Nat, i = .int .i64 k ∧ k ≤ n ∧ Hid (MH wx b (putsT T (L.take k))) ∧ Hid (wr.grownBy wx (some b))) (fun i _ => n - (intOf i).toNat)
      case atStart => exact ⟨0, rfl, by omega, Lib.hid HA2.out.map, Lib.hid (grown_refl _ _)⟩
      case round =>
        obtain ⟨k, rfl, hk, hm, hg⟩ := hrel
        by_cases h1 : k < n
        · have har := HW.out.turned HA2.out.map hg.out
          have hA := HA2.out.turn hg.out hm.out
          obtain ⟨b1, o1, rfl, hlb, hca⟩ := har.re (by rw [HL.out]; omega)
          obtain ⟨e1, e2⟩ := hca k (by rw [HL.out]; exact h1)
          have hL1 : k < L.length := by rw [HL.out]; exact h1
          have hn1 := HN.out k hL1
          have hst := Lib.hid (puts_take (T := T) hL1)
          have c0 := hA.cell
          have hgl2 := hA.ltg
          have hln := puts_len (T := T) (L := L.take k) HH.out.rise
          have hTk : (L.take k).length = k := by rw [List.length_take]; omega
          rw [hTk] at hln
          obtain ⟨D, hown, hmi⟩ := hA.map
          have HM := Lib.hid hmi
          have HO := Lib.hid hown
          have HLN := Lib.hid (show (putsT T (L.take k)).length < maxLen by unfold maxLen; omega)
          clear hca har hL1 hA hmi hown hTk hln
          generalize L.getD k re0 = q at *
          obtain ⟨p, x⟩ := q
          simp only at e1 e2 hn1
          have hk1 := Lib.hid (key_i64 hn1.1 hn1.2.1)
          have hx1 := Lib.hid (wf_u64 hn1.2.2)
          clear hn1
          go_wp2_with (fail)
          obtain ⟨V, hV⟩ : ∃ V, V = wr.alloc (.cells #[.int .i64 p, .int .u64 (x : Int)] 38) := ⟨_, rfl⟩
          have hb3 : Below wr.heap.size wr V := by rw [hV]; exact (Below.refl _ _).alloc (Nat.le_refl _) _
          have hVr : V.heap[wr.heap.size]? = some (.cells #[.int .i64 p, .int .u64 (x : Int)] 38 (0, 0)) := by rw [hV]; exact heap_alloc_new _ _
          have hVo : V.ownsMap Try.prog 3 (plainElem Try.prog 31) b (putsT T (L.take k)).length D := by rw [hV]; exact HO.out.alloc _
          have v0 := (hb3.cell (p := ⟨g, 0, none⟩) hgl2).trans c0
          have v1 : V.cell? ⟨wr.heap.size, 0, none⟩ = some (.int .i64 p) := by rw [cell_of_row V _ 0 _ _ _ hVr]; rfl
          have v2 : V.cell? ⟨wr.heap.size, 1, none⟩ = some (.int .u64 (x : Int)) := by rw [cell_of_row V _ 1 _ _ _ hVr]; rfl
          rw [← hV]
          have HB3 := Lib.hid hb3
          have HVO := Lib.hid hVo
          clear hV hVr hVo hb3 c0 e1 e2
          go_still_tail 8, (by kernel_rfl)
          change wpList _ _ _ _ _ V.drew
          go_wp2_with (first | (at_mapUpdate; refine wpList_mapUpdate_own _ rfl _ _ _ 50 rfl 3 31 kInt Try.underlying50 _ b (putsT T (L.take k)).length D rfl HVO.out.drew HLN.out _ _ _ rfl rfl hk1.out _ [] (plainElem_int Try.underlying31 hx1.out) ?_; intro w1 hown1 hgrow1; replace hown1 := Lib.hid hown1; replace hgrow1 := Lib.hid hgrow1))
          have hf1 := MH.of hown1.out (HM.out.put ⟨p, x⟩ (kInt.key hk1.out))
          rw [← hst.out] at hf1
          have hf2 := grown_trans (grown_trans hg.out (grown_below HB3.out.drew (some b))) hgrow1.out
          go_roundw
          case rel => exact ⟨k + 1, by go_num, by omega, Lib.hid hf1, Lib.hid hf2⟩
          case measure => simp [intOf]; omega
        · obtain rfl : n = k := by omega
          go_wp2_with (fail)
          go_ret
          have hf := hm.out
          rw [show n = L.length from HL.out.symm, List.take_length] at hf
          refine ⟨?_, ?_, ?_⟩
          · unfold putE; rw [KV.out]; rfl
          · unfold putR; rw [KV.out]; exact HA2.out.turn hg.out hf
          · exact grown_trans (grown_below hBr.out _) hg.out
end Go.Proofs.Ytphjppnkackmmaa
