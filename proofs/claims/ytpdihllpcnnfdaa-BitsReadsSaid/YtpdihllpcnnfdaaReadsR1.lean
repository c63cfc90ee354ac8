/- BitsReads: Bytes, and there are enough. No condition. -/
import Derived.Test.YtpdihllpcnnfdaaReadsB
set_option linter.unusedSimpArgs false
set_option linter.unusedVariables false
namespace Go.Proofs.Ytpdihllpcnnfdaa
open Go.RowKit Ost

set_option maxRecDepth 100000 in
set_option maxHeartbeats 20000000 in
theorem r17_yes {c0 c1 c2 c3 c4 c7 c9 c11 c12 c13 c14 c15 c16 c17 c18 c19 c20 c21 c22 c23 c24 c25 c26 c27 c28 c29 c30 c31 c32 c33 c34 c35 c36 c37 c38 c39 c40 c41 c42 c43 c44 c45 c46 c47 c48 c49 c50 c51 c52 c53 c54 c55 c56 c57 c58 c59 c60 c61 c62 c63 c64 c65 c66 c67 c68 c69 c70 c71 c72 c73 c74 c75 c76 c77 c78 c79 c80 c81 c82 c83 c84 c85 c86 c87 c88 c89 c90 c91 c92 c93 c94 c95 c96 c97 c98 c99 c100 c101 c102 c103 c104 c105 c106 c107 c108 c109 c110 c111 c112 c113 c114 c115 c116 c117 c118 c119 c120 c121 c122 c123 c124 c125 c126 c127 c128 c129 c130 c131 c132 c133 c134 c135 c136 c137 c138 c139 c140 c141 c142 c143 c144 c145 c146 c147 c148 c149 c150 c151 c152 c153 : Value} (Q : Exit → Act → World → Prop) (w w1 Wq : World) (bi bw gq len : Nat) (sv lv : Value) (bs : List Nat) (a e : Nat) (n : Int) (HL : Hid (bs.length = len)) (hlen : len ≤ 60) (HLL0 : Hid ((nums 8 bs).length = 8 * bs.length)) (HLIE : Hid (Lie w w.heap.size w1.heap.size bi bw sv lv)) (HBQ : Hid (Both w Wq w.heap.size w1.heap.size bi bw sv lv bs a e)) (hsz : bi < gq ∧ bw < gq) (hgsz : gq < Wq.heap.size) (hqc : Wq.cell? ⟨gq, 1, none⟩ = some (.int .i64 n)) (hyes : e = 0 ∧ 0 ≤ n ∧ (a : Int) + 8 * n ≤ 8 * bs.length)
    (hQ : ∀ (w8 : World) (v55 v56 v57 v58 v59 v60 v61 v62 v63 v64 v65 v66 v67 v68 v69 : Value), (∃ a2 e2, Both w w8 w.heap.size w1.heap.size bi bw sv lv bs a2 e2) → Q .normal ⟨#[c0, c1, c2, c3, c4, .pointer (some ⟨bi, 0, none⟩), .pointer (some ⟨bw, 0, none⟩), c7, .pointer (some ⟨gq, 0, none⟩), .bool true, .int .i64 n, c11, c12, c13, c14, c15, c16, c17, c18, c19, c20, c21, c22, c23, c24, c25, c26, c27, c28, c29, c30, c31, c32, c33, c34, c35, c36, c37, c38, c39, c40, c41, c42, c43, c44, c45, c46, c47, c48, c49, c50, c51, c52, c53, c54, v55, v56, v57, v58, v59, v60, v61, v62, v63, v64, v65, v66, v67, v68, v69, c70, c71, c72, c73, c74, c75, c76, c77, c78, c79, c80, c81, c82, c83, c84, c85, c86, c87, c88, c89, c90, c91, c92, c93, c94, c95, c96, c97, c98, c99, c100, c101, c102, c103, c104, c105, c106, c107, c108, c109, c110, c111, c112, c113, c114, c115, c116, c117, c118, c119, c120, c121, c122, c123, c124, c125, c126, c127, c128, c129, c130, c131, c132, c133, c134, c135, c136, c137, c138, c139, c140, c141, c142, c143, c144, c145, c146, c147, c148, c149, c150, c151, c152, c153], []⟩ w8) :
    reg17.wp Try.prog Q ⟨#[c0, c1, c2, c3, c4, .pointer (some ⟨bi, 0, none⟩), .pointer (some ⟨bw, 0, none⟩), c7, .pointer (some ⟨gq, 0, none⟩), c9, .int .i64 n, c11, c12, c13, c14, c15, c16, c17, c18, c19, c20, c21, c22, c23, c24, c25, c26, c27, c28, c29, c30, c31, c32, c33, c34, c35, c36, c37, c38, c39, c40, c41, c42, c43, c44, c45, c46, c47, c48, c49, c50, c51, c52, c53, c54, c55, c56, c57, c58, c59, c60, c61, c62, c63, c64, c65, c66, c67, c68, c69, c70, c71, c72, c73, c74, c75, c76, c77, c78, c79, c80, c81, c82, c83, c84, c85, c86, c87, c88, c89, c90, c91, c92, c93, c94, c95, c96, c97, c98, c99, c100, c101, c102, c103, c104, c105, c106, c107, c108, c109, c110, c111, c112, c113, c114, c115, c116, c117, c118, c119, c120, c121, c122, c123, c124, c125, c126, c127, c128, c129, c130, c131, c132, c133, c134, c135, c136, c137, c138, c139, c140, c141, c142, c143, c144, c145, c146, c147, c148, c149, c150, c151, c152, c153], []⟩ Wq := by
  conv => arg 2; whnf
  obtain ⟨rfl, y1, y3⟩ := hyes
  obtain ⟨n', rfl⟩ := Int.eq_ofNat_of_zero_le y1
  have hle : a + 8 * n' ≤ 8 * bs.length := by omega
  obtain ⟨m, HM⟩ : ∃ m, Hid (8 * n' = m) := ⟨_, rfl⟩
  have hm480 : m ≤ 480 := by have := HM.out; have := HL.out; omega
  have hle2 : a + m ≤ (nums 8 bs).length := by rw [HLL0.out]; have := HM.out; omega
  have hmw : IntKind.i64.wrap (8 * (n' : Int)) = (m : Int) := by rw [IntWalk.i64_in _ (by have := HM.out; omega)]; have := HM.out; omega
  have hge : decide ((0 : Int) ≤ (n' : Int)) = true := by simp
  have hlen' : (((nums 8 bs).drop a).take m).length = m := by rw [List.length_take, List.length_drop]; omega
  refine wp_region_noPanic ?_
  refine wp_region_held_drew (S := fun w' => w'.cell? ⟨gq, 1, none⟩ = some (.int .i64 (n' : Int))) (by kernel_rfl) ?_ (fun hH0 => ?_)
  · exact hqc
  refine wpAnyH_take (i := 0) (v := ?_) rfl (by kernel_rfl) (by kernel_rfl) (by kernel_rfl) (fun _ _ _ h => h) (Or.inl ⟨by rfl, ?_⟩) (by assumption) ?_
  rotate_left
  · intro w' hSw; (try dsimp only at hSw); go_simp <;> with_reducible rfl
  try simp only [Act.put, List.getElem_cons_zero, List.getElem_cons_succ, List.getElem_toArray, List.setIfInBounds_toArray, List.set_cons_zero, List.set_cons_succ]
  refine wpAnyH_take (i := 1) (v := ?_) rfl (by kernel_rfl) (by kernel_rfl) (by kernel_rfl) (fun _ _ _ h => h) (Or.inl ⟨by rfl, ?_⟩) (by assumption) ?_
  rotate_left
  · intro w' hSw; (try dsimp only at hSw); go_simp <;> with_reducible rfl
  try simp only [Act.put, List.getElem_cons_zero, List.getElem_cons_succ, List.getElem_toArray, List.setIfInBounds_toArray, List.set_cons_zero, List.set_cons_succ]
  refine wpAnyH_take (i := 2) (v := ?_) rfl (by kernel_rfl) (by kernel_rfl) (by kernel_rfl) (fun _ _ _ h => h) (Or.inl ⟨by rfl, ?_⟩) (by assumption) ?_
  rotate_left
  · intro w' hSw; (try dsimp only at hSw); go_simp <;> with_reducible rfl
  try simp only [Act.put, List.getElem_cons_zero, List.getElem_cons_succ, List.getElem_toArray, List.setIfInBounds_toArray, List.set_cons_zero, List.set_cons_succ]
  refine wpAnyH_take (i := 5) (v := ?_) rfl (by kernel_rfl) (by kernel_rfl) (by kernel_rfl) (fun _ _ _ h => h) (Or.inl ⟨by rfl, ?_⟩) (by assumption) ?_
  rotate_left
  · intro w' hSw; (try dsimp only at hSw); go_simp <;> with_reducible rfl
  try simp only [Act.put, List.getElem_cons_zero, List.getElem_cons_succ, List.getElem_toArray, List.setIfInBounds_toArray, List.set_cons_zero, List.set_cons_succ]
  refine wpAnyH_take (i := 6) (v := ?_) rfl (by kernel_rfl) (by kernel_rfl) (by kernel_rfl) (fun _ _ _ h => h) (Or.inl ⟨by rfl, ?_⟩) (by assumption) ?_
  rotate_left
  · intro w' hSw; (try dsimp only at hSw); go_simp <;> with_reducible rfl
  try simp only [Act.put, List.getElem_cons_zero, List.getElem_cons_succ, List.getElem_toArray, List.setIfInBounds_toArray, List.set_cons_zero, List.set_cons_succ]
  refine wpAnyH_take (i := 7) (v := ?_) rfl (by kernel_rfl) (by kernel_rfl) (by kernel_rfl) (fun _ _ _ h => h) (Or.inl ⟨by rfl, ?_⟩) (by assumption) ?_
  rotate_left
  · intro w' hSw; (try dsimp only at hSw); go_simp <;> with_reducible rfl
  try simp only [Act.put, List.getElem_cons_zero, List.getElem_cons_succ, List.getElem_toArray, List.setIfInBounds_toArray, List.set_cons_zero, List.set_cons_succ]
  refine wpAnyH_take (i := 8) (v := ?_) rfl (by kernel_rfl) (by kernel_rfl) (by kernel_rfl) (fun _ _ _ h => h) (Or.inl ⟨by rfl, ?_⟩) (by assumption) ?_
  rotate_left
  · intro w' hSw; (try dsimp only at hSw); go_simp <;> with_reducible rfl
  try simp only [Act.put, List.getElem_cons_zero, List.getElem_cons_succ, List.getElem_toArray, List.setIfInBounds_toArray, List.set_cons_zero, List.set_cons_succ]
  refine wpAnyH_take (i := 9) (v := ?_) rfl (by kernel_rfl) (by kernel_rfl) (by kernel_rfl) (fun _ _ _ h => h) (Or.inl ⟨by rfl, ?_⟩) (by assumption) ?_
  rotate_left
  · intro w' hSw; (try dsimp only at hSw); go_simp <;> with_reducible rfl
  try simp only [Act.put, List.getElem_cons_zero, List.getElem_cons_succ, List.getElem_toArray, List.setIfInBounds_toArray, List.set_cons_zero, List.set_cons_succ]
  refine wpAnyH_take (i := 10) (v := ?_) rfl (by kernel_rfl) (by kernel_rfl) (by kernel_rfl) (fun _ _ _ h => h) (Or.inl ⟨by rfl, ?_⟩) (by assumption) ?_
  rotate_left
  · intro w' hSw; (try dsimp only at hSw); go_simp <;> with_reducible rfl
  try simp only [Act.put, List.getElem_cons_zero, List.getElem_cons_succ, List.getElem_toArray, List.setIfInBounds_toArray, List.set_cons_zero, List.set_cons_succ]
  refine wpAnyH_ready (rs := [3]) (by kernel_rfl) (by simp) ?_
  refine AllReadyH.cons rfl (fun K hK => ?_) AllReadyH.nil
  go_simp
  go_at_call 21; refine (inBytes_yes _ bi n' sv bs a Wq.drew HBQ.out.1 hle).mono ?_; rintro r5 w5 ⟨A5, c5, rfl, hown5, hin5, ho5⟩; have hc5 : w5.cell? ⟨gq, 1, none⟩ = some (.int .i64 (n' : Int)) := (ho5.cell (p := ⟨gq, 1, none⟩) hgsz (fun (h : gq = bi) => by omega)).trans hqc; have hbk5 : ∀ i, blockOf A5 = some i → gq < i := (fun i hi => by have h5 := (hown5.lt i (by rw [ownBlock_slice]; exact hi)).1; have h6 : Wq.drew.heap.size = Wq.heap.size := rfl; omega); have hst5 := run_str w5 A5 n' c5 (cut bs a n') (cut_length _ _ _) (Sees.of_own hown5)
  refine hK.out _ _ ?_ (fun hH1 => ?_)
  · exact hc5
  clear hK K
  clear hH0
  try simp only [Act.put, List.getElem_cons_zero, List.getElem_cons_succ, List.getElem_toArray, List.setIfInBounds_toArray, List.set_cons_zero, List.set_cons_succ]
  refine wpAnyH_more (fun w' => (w'.cell? ⟨gq, 1, none⟩ = some (.int .i64 (n' : Int))) ∧ (convert 22 9 (.slice A5 n' c5)).run Try.prog w' = .ok (.string (str (cut bs a n'))) w') (fun _ h => h.1) (⟨hc5, hst5⟩) (fun hH2 => ?_)
  clear hH1
  refine wpAnyH_take (i := 4) (v := ?_) rfl (by kernel_rfl) (by kernel_rfl) (by kernel_rfl) (fun _ _ _ h => h) (Or.inl ⟨by rfl, ?_⟩) (by assumption) ?_
  rotate_left
  · intro w' hSw; (try dsimp only at hSw); go_simp <;> with_reducible rfl
  try simp only [Act.put, List.getElem_cons_zero, List.getElem_cons_succ, List.getElem_toArray, List.setIfInBounds_toArray, List.set_cons_zero, List.set_cons_succ]
  refine wpAnyH_ready (rs := [11]) (by kernel_rfl) (by simp) ?_
  refine AllReadyH.cons rfl (fun K hK => ?_) AllReadyH.nil
  go_simp
  go_at_call 19; refine (take_yes _ bw m lv (nums 8 bs) a w5 (Both.ref HBQ.out.drew HLIE.out ho5) hle2).mono ?_; rintro r6 w6 ⟨A6, c6, rfl, hsee6, hA6, href6, ho6⟩; rw [← HM.out] at href6; have hc6 : w6.cell? ⟨gq, 1, none⟩ = some (.int .i64 (n' : Int)) := (ho6.cell (p := ⟨gq, 1, none⟩) (Nat.lt_of_lt_of_le hgsz ho5.size) (fun (h : gq = bw) => by omega)).trans hc5; have hse6 := (Sees.of_own hown5).only ho6 (fun i hi (e : i = bw) => by have := hbk5 i hi; omega); have hst6 := run_str w6 A5 n' c5 (cut bs a n') (cut_length _ _ _) hse6
  refine hK.out _ _ ?_ (fun hH3 => ?_)
  · exact ⟨hc6, hst6⟩
  clear hK K
  clear hH2
  try simp only [Act.put, List.getElem_cons_zero, List.getElem_cons_succ, List.getElem_toArray, List.setIfInBounds_toArray, List.set_cons_zero, List.set_cons_succ]
  refine wpAnyH_ready (rs := [12]) (by kernel_rfl) (by simp) ?_
  refine AllReadyH.cons rfl (fun K hK => ?_) AllReadyH.nil
  go_simp
  go_at_call 14; refine (refDone_any A6 m c6 (((nums 8 bs).drop a).take m) w6 hlen' hsee6 (by omega)).mono ?_; rintro r8 w8 ⟨A8, c8, cs8, hp8, rfl, hown8, ho8⟩; obtain rfl : cs8 = cut bs a n' := packs_cut hle (by rw [HM.out]; exact hp8); rw [cut_length]; have hc8 : w8.cell? ⟨gq, 1, none⟩ = some (.int .i64 (n' : Int)) := (ho8.cell (p := ⟨gq, 1, none⟩) (Nat.lt_of_lt_of_le (Nat.lt_of_lt_of_le hgsz ho5.size) ho6.size) (fun h => h)).trans hc6; have hst8 := run_str w8 A8 n' c8 (cut bs a n') (cut_length _ _ _) (Sees.of_own hown8); have hst58 := run_str w8 A5 n' c5 (cut bs a n') (cut_length _ _ _) (hse6.only ho8 (fun _ _ e => e))
  refine hK.out _ _ ?_ (fun hH4 => ?_)
  · exact ⟨hc8, hst58⟩
  clear hK K
  clear hH3
  try simp only [Act.put, List.getElem_cons_zero, List.getElem_cons_succ, List.getElem_toArray, List.setIfInBounds_toArray, List.set_cons_zero, List.set_cons_succ]
  refine wpAnyH_more (fun w' => ((w'.cell? ⟨gq, 1, none⟩ = some (.int .i64 (n' : Int))) ∧ (convert 22 9 (.slice A5 n' c5)).run Try.prog w' = .ok (.string (str (cut bs a n'))) w') ∧ (convert 22 9 (.slice A8 n' c8)).run Try.prog w' = .ok (.string (str (cut bs a n'))) w') (fun _ h => h.1) (⟨⟨hc8, hst58⟩, hst8⟩) (fun hH5 => ?_)
  clear hH4
  refine wpAnyH_take (i := 13) (v := ?_) rfl (by kernel_rfl) (by kernel_rfl) (by kernel_rfl) (fun _ _ _ h => h) (Or.inl ⟨by rfl, ?_⟩) (by assumption) ?_
  rotate_left
  · intro w' hSw; (try dsimp only at hSw); go_simp <;> with_reducible rfl
  try simp only [Act.put, List.getElem_cons_zero, List.getElem_cons_succ, List.getElem_toArray, List.setIfInBounds_toArray, List.set_cons_zero, List.set_cons_succ]
  refine wpAnyH_take (i := 14) (v := ?_) rfl (by kernel_rfl) (by kernel_rfl) (by kernel_rfl) (fun _ _ _ h => h) (Or.inl ⟨by rfl, ?_⟩) (by assumption) ?_
  rotate_left
  · intro w' hSw; (try dsimp only at hSw); go_simp <;> with_reducible rfl
  try simp only [Act.put, List.getElem_cons_zero, List.getElem_cons_succ, List.getElem_toArray, List.setIfInBounds_toArray, List.set_cons_zero, List.set_cons_succ]
  refine wpAnyH_take (i := 15) (v := ?_) rfl (by kernel_rfl) (by kernel_rfl) (by kernel_rfl) (fun _ _ _ h => h) (Or.inl ⟨by rfl, ?_⟩) (by assumption) ?_
  rotate_left
  · intro w' hSw; (try dsimp only at hSw); go_simp <;> with_reducible rfl
  try simp only [Act.put, List.getElem_cons_zero, List.getElem_cons_succ, List.getElem_toArray, List.setIfInBounds_toArray, List.set_cons_zero, List.set_cons_succ]
  refine wpAnyH_done (by kernel_rfl) ?_ _
  refine NoPanic.normal ?_
  clear hH5

  have hst : ∃ a2 e2, Both w w8 w.heap.size w1.heap.size bi bw sv lv bs a2 e2 := ⟨_, _, (Both.step HBQ.out.drew HLIE.out hin5 ho5 href6 ho6).keep ho8⟩
  exact hQ _ _ _ _ _ _ _ _ _ _ _ _ _ _ _ _ hst

end Go.Proofs.Ytpdihllpcnnfdaa
