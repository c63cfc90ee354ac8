/- Parts of a proof, one behind the other: JT2 JW3. No condition. -/
import Derived.Test.YtgopjjimafcgjaaGJ
section
namespace Go.Proofs.Ytgopjjimafcgjaa
open Go Reck Ost
set_option linter.unusedVariables false
set_option maxRecDepth 100000
--PLAIN
theorem bindFinds_vc (A:List (List CV)) (s c0:Nat) (v0 v1 v2 v3:Int) (v4 v5:List Int) (v6:Int):(runB (invJT 0 0 0 0) tJl 7 [cell (rslC ⟨0,12,0,s,c0⟩),jbA v0 v1 v2 v3 v4 v5 v6] ⟨[],[],0,[some (jopB A)],0⟩)=(∀ (z0:Int),z0=(↑s:Int)→(∃ (y1:Int × Nat × Nat × Rws × Nat × Rws × Rws × Nat × Nat),((0:Nat)=0∧0=y1.2.2.2.2.2.2.2.1∧0=y1.2.2.2.2.2.2.2.2)∧((0:Nat)=0∧s=s∧c0=c0)∧z0=z0∧0=y1.1∧v0=v0∧v1=v1∧v2=v2∧v3=v3∧v4=v4∧v5=v5∧v6=v6∧((0:Nat)=0∧0=y1.2.1∧0=y1.2.2.1)∧((0:Nat)=0∧0=y1.2.1∧0=y1.2.2.2.2.1)∧(64:Int)=64∧(A=A∧(0:Nat)=0∧true=true)∧(U.nilL=y1.2.2.2.1∧0=y1.2.2.1∧false=false)∧(U.nilL=y1.2.2.2.2.2.1∧0=y1.2.2.2.2.1∧false=false)∧(U.nilL=y1.2.2.2.2.2.2.1∧0=y1.2.2.2.2.2.2.2.2∧false=false)∧U.jlI y1.1 y1.2.1 y1.2.2.1 y1.2.2.2.1 y1.2.2.2.2.1 y1.2.2.2.2.2.1 y1.2.2.2.2.2.2.1 y1.2.2.2.2.2.2.2.1 y1.2.2.2.2.2.2.2.2)∧∀ (x2:Int × Nat × Nat × Rws × Nat × Rws × Rws × Nat × Nat),U.jlI x2.1 x2.2.1 x2.2.2.1 x2.2.2.2.1 x2.2.2.2.2.1 x2.2.2.2.2.2.1 x2.2.2.2.2.2.2.1 x2.2.2.2.2.2.2.2.1 x2.2.2.2.2.2.2.2.2→(x2.1<z0→(0≤x2.1∧x2.1<(↑s:Int))∧∀ (j3:Nat),(↑j3:Int)=(↑((0:Nat)):Int) + x2.1→j3<List.length A∧∀ (z4:Int),z4=U.fi A j3 ((0:Nat))→∀ (z5:Int),z5=U.fi A j3 ((0:Nat) + (1:Nat))→∀ (z6:Int),z6=U.fi A j3 ((0:Nat) + (1:Nat) + (1:Nat))→∀ (z7:Int),z7=U.fi A j3 ((0:Nat) + (1:Nat) + (1:Nat) + (1:Nat))→∀ (z8:Int),z8=U.fi A j3 ((0:Nat) + (1:Nat) + (1:Nat) + (1:Nat) + (1:Nat))→∀ (z9:List Int),z9=U.fs A j3 ((0:Nat) + (1:Nat) + (1:Nat) + (1:Nat) + (1:Nat) + (1:Nat))→∀ (z10:List Int),z10=U.fs A j3 ((0:Nat) + (1:Nat) + (1:Nat) + (1:Nat) + (1:Nat) + (1:Nat) + (1:Nat))→∀ (z11:Int),z11=U.fi A j3 ((0:Nat) + (1:Nat) + (1:Nat) + (1:Nat) + (1:Nat) + (1:Nat) + (1:Nat) + (1:Nat))→∀ (z12:Int),z12=U.fi A j3 ((0:Nat) + (1:Nat) + (1:Nat) + (1:Nat) + (1:Nat) + (1:Nat) + (1:Nat) + (1:Nat) + (1:Nat))→∀ (z13:Int),z13=U.fi A j3 ((0:Nat) + (1:Nat) + (1:Nat) + (1:Nat) + (1:Nat) + (1:Nat) + (1:Nat) + (1:Nat) + (1:Nat) + (1:Nat))→∀ (z14:List Int),z14=U.fs A j3 ((0:Nat) + (1:Nat) + (1:Nat) + (1:Nat) + (1:Nat) + (1:Nat) + (1:Nat) + (1:Nat) + (1:Nat) + (1:Nat) + (1:Nat))→∀ (z15:Int),z15=U.fi A j3 ((0:Nat) + (1:Nat) + (1:Nat) + (1:Nat) + (1:Nat) + (1:Nat) + (1:Nat) + (1:Nat) + (1:Nat) + (1:Nat) + (1:Nat) + (1:Nat))→(x2.1<50→∀ (a16 b17 d18:List Int),a16=U.jTk z9→b17=U.jTk z10→d18=U.jTk z14→(x2.2.2.2.2.2.2.2.2=x2.2.2.2.2.2.2.2.2∧((x2.2.2.1=x2.2.2.1∧x2.2.2.2.2.1=x2.2.2.2.2.1∧x2.2.1=x2.2.1)∧(64:Int)=64)∧U.jW x2.2.1 x2.2.2.1 x2.2.2.2.1 x2.2.2.2.2.1 x2.2.2.2.2.2.1 x2.2.2.2.2.2.2.1 x2.2.2.2.2.2.2.2.1 x2.2.2.2.2.2.2.2.2)∧(∀ (z19:Int),z19=IntKind.wrap .i64 (x2.1 + (1:Int))→∃ (y20:Int × Nat × Nat × Rws × Nat × Rws × Rws × Nat × Nat),((0:Nat)=0∧x2.2.2.2.2.2.2.2.1=y20.2.2.2.2.2.2.2.1∧x2.2.2.2.2.2.2.2.2=y20.2.2.2.2.2.2.2.2)∧((0:Nat)=0∧s=s∧c0=c0)∧z0=z0∧z19=y20.1∧v0=v0∧v1=v1∧v2=v2∧v3=v3∧v4=v4∧v5=v5∧v6=v6∧((0:Nat)=0∧x2.2.1=y20.2.1∧x2.2.2.1=y20.2.2.1)∧((0:Nat)=0∧x2.2.1=y20.2.1∧x2.2.2.2.2.1=y20.2.2.2.2.1)∧(64:Int)=64∧(A=A∧(0:Nat)=0∧true=true)∧(x2.2.2.2.1=y20.2.2.2.1∧x2.2.2.1=y20.2.2.1∧false=false)∧(x2.2.2.2.2.2.1=y20.2.2.2.2.2.1∧x2.2.2.2.2.1=y20.2.2.2.2.1∧false=false)∧(x2.2.2.2.2.2.2.1=y20.2.2.2.2.2.2.1∧x2.2.2.2.2.2.2.2.2=y20.2.2.2.2.2.2.2.2∧false=false)∧U.jlI y20.1 y20.2.1 y20.2.2.1 y20.2.2.2.1 y20.2.2.2.2.1 y20.2.2.2.2.2.1 y20.2.2.2.2.2.2.1 y20.2.2.2.2.2.2.2.1 y20.2.2.2.2.2.2.2.2∧Int.toNat (↑s:Int) - Int.toNat y20.1<Int.toNat (↑s:Int) - Int.toNat x2.1)∧(∀ (n'21:Nat) (L'22 M'23 W'24:Rws) (w'25 cw'26:Nat),U.jW n'21 x2.2.2.1 L'22 x2.2.2.2.2.1 M'23 W'24 w'25 cw'26→∀ (z27:Int),z27=IntKind.wrap .i64 (x2.1 + (1:Int))→∃ (y28:Int × Nat × Nat × Rws × Nat × Rws × Rws × Nat × Nat),((0:Nat)=0∧w'25=y28.2.2.2.2.2.2.2.1∧cw'26=y28.2.2.2.2.2.2.2.2)∧((0:Nat)=0∧s=s∧c0=c0)∧z0=z0∧z27=y28.1∧v0=v0∧v1=v1∧v2=v2∧v3=v3∧v4=v4∧v5=v5∧v6=v6∧((0:Nat)=0∧n'21=y28.2.1∧x2.2.2.1=y28.2.2.1)∧((0:Nat)=0∧n'21=y28.2.1∧x2.2.2.2.2.1=y28.2.2.2.2.1)∧(64:Int)=64∧(A=A∧(0:Nat)=0∧true=true)∧(L'22=y28.2.2.2.1∧x2.2.2.1=y28.2.2.1∧false=false)∧(M'23=y28.2.2.2.2.2.1∧x2.2.2.2.2.1=y28.2.2.2.2.1∧false=false)∧(W'24=y28.2.2.2.2.2.2.1∧cw'26=y28.2.2.2.2.2.2.2.2∧false=false)∧U.jlI y28.1 y28.2.1 y28.2.2.1 y28.2.2.2.1 y28.2.2.2.2.1 y28.2.2.2.2.2.1 y28.2.2.2.2.2.2.1 y28.2.2.2.2.2.2.2.1 y28.2.2.2.2.2.2.2.2∧Int.toNat (↑s:Int) - Int.toNat y28.1<Int.toNat (↑s:Int) - Int.toNat x2.1)∧∀ (n'29 c'30:Nat) (L'31:Rws) (d'32:Nat) (M'33 W'34:Rws) (w'35 cw'36:Nat),U.jW n'29 c'30 L'31 d'32 M'33 W'34 w'35 cw'36→∀ (z37:Int),z37=IntKind.wrap .i64 (x2.1 + (1:Int))→∃ (y38:Int × Nat × Nat × Rws × Nat × Rws × Rws × Nat × Nat),((0:Nat)=0∧w'35=y38.2.2.2.2.2.2.2.1∧cw'36=y38.2.2.2.2.2.2.2.2)∧((0:Nat)=0∧s=s∧c0=c0)∧z0=z0∧z37=y38.1∧v0=v0∧v1=v1∧v2=v2∧v3=v3∧v4=v4∧v5=v5∧v6=v6∧((0:Nat)=0∧n'29=y38.2.1∧c'30=y38.2.2.1)∧((0:Nat)=0∧n'29=y38.2.1∧d'32=y38.2.2.2.2.1)∧(64:Int)=64∧(A=A∧(0:Nat)=0∧true=true)∧(L'31=y38.2.2.2.1∧c'30=y38.2.2.1∧false=false)∧(M'33=y38.2.2.2.2.2.1∧d'32=y38.2.2.2.2.1∧false=false)∧(W'34=y38.2.2.2.2.2.2.1∧cw'36=y38.2.2.2.2.2.2.2.2∧false=false)∧U.jlI y38.1 y38.2.1 y38.2.2.1 y38.2.2.2.1 y38.2.2.2.2.1 y38.2.2.2.2.2.1 y38.2.2.2.2.2.2.1 y38.2.2.2.2.2.2.2.1 y38.2.2.2.2.2.2.2.2∧Int.toNat (↑s:Int) - Int.toNat y38.1<Int.toNat (↑s:Int) - Int.toNat x2.1)∧(¬x2.1<50→∀ (z39:Int),z39=IntKind.wrap .i64 (x2.1 + (1:Int))→∃ (y40:Int × Nat × Nat × Rws × Nat × Rws × Rws × Nat × Nat),((0:Nat)=0∧x2.2.2.2.2.2.2.2.1=y40.2.2.2.2.2.2.2.1∧x2.2.2.2.2.2.2.2.2=y40.2.2.2.2.2.2.2.2)∧((0:Nat)=0∧s=s∧c0=c0)∧z0=z0∧z39=y40.1∧v0=v0∧v1=v1∧v2=v2∧v3=v3∧v4=v4∧v5=v5∧v6=v6∧((0:Nat)=0∧x2.2.1=y40.2.1∧x2.2.2.1=y40.2.2.1)∧((0:Nat)=0∧x2.2.1=y40.2.1∧x2.2.2.2.2.1=y40.2.2.2.2.1)∧(64:Int)=64∧(A=A∧(0:Nat)=0∧true=true)∧(x2.2.2.2.1=y40.2.2.2.1∧x2.2.2.1=y40.2.2.1∧false=false)∧(x2.2.2.2.2.2.1=y40.2.2.2.2.2.1∧x2.2.2.2.2.1=y40.2.2.2.2.1∧false=false)∧(x2.2.2.2.2.2.2.1=y40.2.2.2.2.2.2.1∧x2.2.2.2.2.2.2.2.2=y40.2.2.2.2.2.2.2.2∧false=false)∧U.jlI y40.1 y40.2.1 y40.2.2.1 y40.2.2.2.1 y40.2.2.2.2.1 y40.2.2.2.2.2.1 y40.2.2.2.2.2.2.1 y40.2.2.2.2.2.2.2.1 y40.2.2.2.2.2.2.2.2∧Int.toNat (↑s:Int) - Int.toNat y40.1<Int.toNat (↑s:Int) - Int.toNat x2.1))∧(¬x2.1<z0→∃ (y41:JBP),(((x2.2.2.1=x2.2.2.1∧x2.2.2.2.2.1=x2.2.2.2.2.1∧x2.2.1=x2.2.1)∧(64:Int)=64)∧U.Jb x2.2.1 x2.2.2.1 x2.2.2.2.1 x2.2.2.2.2.1 x2.2.2.2.2.2.1 y41)∧(¬U.jMay ⟨v0,v1,v2,v3,v4,v5,v6⟩→(U.jMay ⟨v0,v1,v2,v3,v4,v5,v6⟩→∃ (y42:JBP),(((x2.2.2.1=x2.2.2.1∧x2.2.2.2.2.1=x2.2.2.2.2.1∧x2.2.1=x2.2.1)∧(64:Int)=64)∧U.Jb x2.2.1 x2.2.2.1 x2.2.2.2.1 x2.2.2.2.2.1 x2.2.2.2.2.2.1 y42)∧(∀ (k43:Int) (v44:JBv),List.Mem (k43,v44) y42→v44.2=v1→∃ (y45:JBP),(((x2.2.2.1=x2.2.2.1∧x2.2.2.2.2.1=x2.2.2.2.2.1∧x2.2.1=x2.2.1)∧(64:Int)=64)∧U.Jb x2.2.1 x2.2.2.1 x2.2.2.2.1 x2.2.2.2.2.1 x2.2.2.2.2.2.1 y45)∧(∀ (k46:Int) (v47:JBv),List.Mem (k46,v47) y45→v47.3=v2∧v47.4=v3→∃ (y48:JBP),(((x2.2.2.1=x2.2.2.1∧x2.2.2.2.2.1=x2.2.2.2.2.1∧x2.2.1=x2.2.1)∧(64:Int)=64)∧U.Jb x2.2.1 x2.2.2.1 x2.2.2.2.1 x2.2.2.2.2.1 x2.2.2.2.2.2.1 y48)∧∀ (v049 v150 v251 v352:Int) (v453 v554:List Int) (v655 e56:Int),U.jCk y48 v2 v3 v0 v1 ⟨v049,v150,v251,v352,v453,v554,v655⟩ e56→Err [(200:Nat)])∧((∀ (p57:Int × JBv),List.Mem p57 y45→¬(p57.2.3=v2∧p57.2.4=v3))→∃ (y58:JBP),(((x2.2.2.1=x2.2.2.1∧x2.2.2.2.2.1=x2.2.2.2.2.1∧x2.2.1=x2.2.1)∧(64:Int)=64)∧U.Jb x2.2.1 x2.2.2.1 x2.2.2.2.1 x2.2.2.2.2.1 x2.2.2.2.2.2.1 y58)∧∀ (v059 v160 v261 v362:Int) (v463 v564:List Int) (v665 e66:Int),U.jCk y58 v2 v3 v0 v1 ⟨v059,v160,v261,v362,v463,v564,v665⟩ e66→Err [(200:Nat)]))∧((∀ (p67:Int × JBv),List.Mem p67 y42→¬p67.2.2=v1)→∃ (y68:JBP),(((x2.2.2.1=x2.2.2.1∧x2.2.2.2.2.1=x2.2.2.2.2.1∧x2.2.1=x2.2.1)∧(64:Int)=64)∧U.Jb x2.2.1 x2.2.2.1 x2.2.2.2.1 x2.2.2.2.2.1 x2.2.2.2.2.2.1 y68)∧(∀ (k69:Int) (v70:JBv),List.Mem (k69,v70) y68→v70.3=v2∧v70.4=v3→∃ (y71:JBP),(((x2.2.2.1=x2.2.2.1∧x2.2.2.2.2.1=x2.2.2.2.2.1∧x2.2.1=x2.2.1)∧(64:Int)=64)∧U.Jb x2.2.1 x2.2.2.1 x2.2.2.2.1 x2.2.2.2.2.1 x2.2.2.2.2.2.1 y71)∧∀ (v072 v173 v274 v375:Int) (v476 v577:List Int) (v678 e79:Int),U.jCk y71 v2 v3 v0 v1 ⟨v072,v173,v274,v375,v476,v577,v678⟩ e79→Err [(200:Nat)])∧((∀ (p80:Int × JBv),List.Mem p80 y68→¬(p80.2.3=v2∧p80.2.4=v3))→∃ (y81:JBP),(((x2.2.2.1=x2.2.2.1∧x2.2.2.2.2.1=x2.2.2.2.2.1∧x2.2.1=x2.2.1)∧(64:Int)=64)∧U.Jb x2.2.1 x2.2.2.1 x2.2.2.2.1 x2.2.2.2.2.1 x2.2.2.2.2.2.1 y81)∧∀ (v082 v183 v284 v385:Int) (v486 v587:List Int) (v688 e89:Int),U.jCk y81 v2 v3 v0 v1 ⟨v082,v183,v284,v385,v486,v587,v688⟩ e89→Err [(200:Nat)])))∧(¬U.jMay ⟨v0,v1,v2,v3,v4,v5,v6⟩→True))∧(U.jMay ⟨v0,v1,v2,v3,v4,v5,v6⟩→∀ (n'90 c'91:Nat) (L'92:Rws) (d'93:Nat) (M'94 O95:Rws) (r96 co97:Nat),U.Jb n'90 c'91 L'92 d'93 M'94 (U.jAdd ⟨v0,v1,v2,v3,v4,v5,v6⟩ y41)→U.jRw (U.jGone (U.jBar ⟨v0,v1,v2,v3,v4,v5,v6⟩) y41) O95 r96 co97→(U.jMay ⟨v0,v1,v2,v3,v4,v5,v6⟩→∃ (y98:JBP),(((c'91=c'91∧d'93=d'93∧n'90=n'90)∧(64:Int)=64)∧U.Jb n'90 c'91 L'92 d'93 M'94 y98)∧(∀ (k99:Int) (v100:JBv),List.Mem (k99,v100) y98→v100.2=v1→∃ (y101:JBP),(((c'91=c'91∧d'93=d'93∧n'90=n'90)∧(64:Int)=64)∧U.Jb n'90 c'91 L'92 d'93 M'94 y101)∧(∀ (k102:Int) (v103:JBv),List.Mem (k102,v103) y101→v103.3=v2∧v103.4=v3→∃ (y104:JBP),(((c'91=c'91∧d'93=d'93∧n'90=n'90)∧(64:Int)=64)∧U.Jb n'90 c'91 L'92 d'93 M'94 y104)∧∀ (v0105 v1106 v2107 v3108:Int) (v4109 v5110:List Int) (v6111 e112:Int),U.jCk y104 v2 v3 v0 v1 ⟨v0105,v1106,v2107,v3108,v4109,v5110,v6111⟩ e112→v0=v0∧v1=v1∧v2=v2∧v3=v3∧v4=v4∧v5=v5∧v6=v6∧v100.1=v100.1∧v100.2=v100.2∧v100.3=v100.3∧v100.4=v100.4∧v100.5=v100.5∧v100.6=v100.6∧v100.7=v100.7∧(¬(v100.1=v0∧v100.2=v1∧(v100.3=v2∧v100.4=v3∧True)∧v100.5=v4∧v100.6=v5∧v100.7=v6∧True)→Err [(200:Nat)])∧(¬¬(v100.1=v0∧v100.2=v1∧(v100.3=v2∧v100.4=v3∧True)∧v100.5=v4∧v100.6=v5∧v100.7=v6∧True)→v0=v0∧v1=v1∧v2=v2∧v3=v3∧v4=v4∧v5=v5∧v6=v6∧v103.1=v103.1∧v103.2=v103.2∧v103.3=v103.3∧v103.4=v103.4∧v103.5=v103.5∧v103.6=v103.6∧v103.7=v103.7∧v0=v0∧v1=v1∧v2=v2∧v3=v3∧v4=v4∧v5=v5∧v6=v6∧v100.1=v100.1∧v100.2=v100.2∧v100.3=v100.3∧v100.4=v100.4∧v100.5=v100.5∧v100.6=v100.6∧v100.7=v100.7∧(¬(v103.1=v0∧v103.2=v1∧(v103.3=v2∧v103.4=v3∧True)∧v103.5=v4∧v103.6=v5∧v103.7=v6∧True)→Err [(200:Nat)])∧(¬¬(v103.1=v0∧v103.2=v1∧(v103.3=v2∧v103.4=v3∧True)∧v103.5=v4∧v103.6=v5∧v103.7=v6∧True)→v0=v0∧v1=v1∧v2=v2∧v3=v3∧v4=v4∧v5=v5∧v6=v6∧v0105=v0105∧v1106=v1106∧v2107=v2107∧v3108=v3108∧v4109=v4109∧v5110=v5110∧v6111=v6111∧v0=v0∧v1=v1∧v2=v2∧v3=v3∧v4=v4∧v5=v5∧v6=v6∧v103.1=v103.1∧v103.2=v103.2∧v103.3=v103.3∧v103.4=v103.4∧v103.5=v103.5∧v103.6=v103.6∧v103.7=v103.7∧v0=v0∧v1=v1∧v2=v2∧v3=v3∧v4=v4∧v5=v5∧v6=v6∧v100.1=v100.1∧v100.2=v100.2∧v100.3=v100.3∧v100.4=v100.4∧v100.5=v100.5∧v100.6=v100.6∧v100.7=v100.7∧(¬(v0105=v0∧v1106=v1∧(v2107=v2∧v3108=v3∧True)∧v4109=v4∧v5110=v5∧v6111=v6∧True)→Err [(200:Nat)])∧(¬¬(v0105=v0∧v1106=v1∧(v2107=v2∧v3108=v3∧True)∧v4109=v4∧v5110=v5∧v6111=v6∧True)→(e112=0→(¬v5=[]→∃ (y113:JBP),(((c'91=c'91∧d'93=d'93∧n'90=n'90)∧(64:Int)=64)∧U.Jb n'90 c'91 L'92 d'93 M'94 y113)∧∀ (n'114:Nat) (L'115 M'116 O117:Rws) (r118 co119:Nat),U.Jb n'114 c'91 L'115 d'93 M'116 (U.jRest (U.jL1 v2 v3) y113)→U.jRw (U.jGone (U.jL1 v2 v3) y113) O117 r118 co119→∃ (y120:JBP),(((c'91=c'91∧d'93=d'93∧n'114=n'114)∧(64:Int)=64)∧U.Jb n'114 c'91 L'115 d'93 M'116 y120)∧(∀ (k121:Int) (v122:JBv),List.Mem (k121,v122) y120→v122.3=v2∧v122.4=v3→∀ (z123:Int),z123=(↑r118:Int)→(z123=1→((0:Int)≤0∧(0:Int)<(↑r118:Int))∧∀ (j124:Nat),(↑j124:Int)=(↑((0:Nat)):Int) + (0:Int)→j124<List.length O117∧∀ (z125:Int),z125=U.fi O117 j124 ((0:Nat))→∀ (z126:Int),z126=U.fi O117 j124 ((0:Nat) + (1:Nat))→∀ (z127:Int),z127=U.fi O117 j124 ((0:Nat) + (1:Nat) + (1:Nat))→∀ (z128:Int),z128=U.fi O117 j124 ((0:Nat) + (1:Nat) + (1:Nat) + (1:Nat))→∀ (z129:List Int),z129=U.fs O117 j124 ((0:Nat) + (1:Nat) + (1:Nat) + (1:Nat) + (1:Nat))→∀ (z130:List Int),z130=U.fs O117 j124 ((0:Nat) + (1:Nat) + (1:Nat) + (1:Nat) + (1:Nat) + (1:Nat))→∀ (z131:Int),z131=U.fi O117 j124 ((0:Nat) + (1:Nat) + (1:Nat) + (1:Nat) + (1:Nat) + (1:Nat) + (1:Nat))→v0=v0∧v1=v1∧v2=v2∧v3=v3∧v4=v4∧v5=v5∧v6=v6∧U.cellAt O117 j124 ((0:Nat)) (CV.i z125)∧U.cellAt O117 j124 ((0:Nat) + (1:Nat)) (CV.i z126)∧U.cellAt O117 j124 ((0:Nat) + (1:Nat) + (1:Nat)) (CV.i z127)∧U.cellAt O117 j124 ((0:Nat) + (1:Nat) + (1:Nat) + (1:Nat)) (CV.i z128)∧U.cellAt O117 j124 ((0:Nat) + (1:Nat) + (1:Nat) + (1:Nat) + (1:Nat)) (CV.s z129)∧U.cellAt O117 j124 ((0:Nat) + (1:Nat) + (1:Nat) + (1:Nat) + (1:Nat) + (1:Nat)) (CV.s z130)∧U.cellAt O117 j124 ((0:Nat) + (1:Nat) + (1:Nat) + (1:Nat) + (1:Nat) + (1:Nat) + (1:Nat)) (CV.i z131)∧(z125=v0∧z126=v1∧(z127=v2∧z128=v3∧True)∧z129=v4∧z130=v5∧z131=v6∧True→Err [(200:Nat)])∧(¬(z125=v0∧z126=v1∧(z127=v2∧z128=v3∧True)∧z129=v4∧z130=v5∧z131=v6∧True)→Err [(200:Nat)]))∧(¬z123=1→Err [(200:Nat)]))∧((∀ (p132:Int × JBv),List.Mem p132 y120→¬(p132.2.3=v2∧p132.2.4=v3))→∀ (z133:Int),z133=(↑r118:Int)→(z133=1→((0:Int)≤0∧(0:Int)<(↑r118:Int))∧∀ (j134:Nat),(↑j134:Int)=(↑((0:Nat)):Int) + (0:Int)→j134<List.length O117∧∀ (z135:Int),z135=U.fi O117 j134 ((0:Nat))→∀ (z136:Int),z136=U.fi O117 j134 ((0:Nat) + (1:Nat))→∀ (z137:Int),z137=U.fi O117 j134 ((0:Nat) + (1:Nat) + (1:Nat))→∀ (z138:Int),z138=U.fi O117 j134 ((0:Nat) + (1:Nat) + (1:Nat) + (1:Nat))→∀ (z139:List Int),z139=U.fs O117 j134 ((0:Nat) + (1:Nat) + (1:Nat) + (1:Nat) + (1:Nat))→∀ (z140:List Int),z140=U.fs O117 j134 ((0:Nat) + (1:Nat) + (1:Nat) + (1:Nat) + (1:Nat) + (1:Nat))→∀ (z141:Int),z141=U.fi O117 j134 ((0:Nat) + (1:Nat) + (1:Nat) + (1:Nat) + (1:Nat) + (1:Nat) + (1:Nat))→v0=v0∧v1=v1∧v2=v2∧v3=v3∧v4=v4∧v5=v5∧v6=v6∧U.cellAt O117 j134 ((0:Nat)) (CV.i z135)∧U.cellAt O117 j134 ((0:Nat) + (1:Nat)) (CV.i z136)∧U.cellAt O117 j134 ((0:Nat) + (1:Nat) + (1:Nat)) (CV.i z137)∧U.cellAt O117 j134 ((0:Nat) + (1:Nat) + (1:Nat) + (1:Nat)) (CV.i z138)∧U.cellAt O117 j134 ((0:Nat) + (1:Nat) + (1:Nat) + (1:Nat) + (1:Nat)) (CV.s z139)∧U.cellAt O117 j134 ((0:Nat) + (1:Nat) + (1:Nat) + (1:Nat) + (1:Nat) + (1:Nat)) (CV.s z140)∧U.cellAt O117 j134 ((0:Nat) + (1:Nat) + (1:Nat) + (1:Nat) + (1:Nat) + (1:Nat) + (1:Nat)) (CV.i z141)∧(z135=v0∧z136=v1∧(z137=v2∧z138=v3∧True)∧z139=v4∧z140=v5∧z141=v6∧True→v0=v0∧v1=v1∧v2=v2∧v3=v3∧v4=v4∧v5=v5∧v6=v6∧U.cellAt O117 j134 ((0:Nat)) (CV.i z135)∧U.cellAt O117 j134 ((0:Nat) + (1:Nat)) (CV.i z136)∧U.cellAt O117 j134 ((0:Nat) + (1:Nat) + (1:Nat)) (CV.i z137)∧U.cellAt O117 j134 ((0:Nat) + (1:Nat) + (1:Nat) + (1:Nat)) (CV.i z138)∧U.cellAt O117 j134 ((0:Nat) + (1:Nat) + (1:Nat) + (1:Nat) + (1:Nat)) (CV.s z139)∧U.cellAt O117 j134 ((0:Nat) + (1:Nat) + (1:Nat) + (1:Nat) + (1:Nat) + (1:Nat)) (CV.s z140)∧U.cellAt O117 j134 ((0:Nat) + (1:Nat) + (1:Nat) + (1:Nat) + (1:Nat) + (1:Nat) + (1:Nat)) (CV.i z141)∧True)∧(¬(z135=v0∧z136=v1∧(z137=v2∧z138=v3∧True)∧z139=v4∧z140=v5∧z141=v6∧True)→Err [(200:Nat)]))∧(¬z133=1→Err [(200:Nat)])))∧(¬¬v5=[]→Err [(200:Nat)]))∧(¬e112=0→(¬v5=[]→Err [(200:Nat)])∧(¬¬v5=[]→∃ (y142:JBP),(((c'91=c'91∧d'93=d'93∧n'90=n'90)∧(64:Int)=64)∧U.Jb n'90 c'91 L'92 d'93 M'94 y142)∧∀ (n'143:Nat) (L'144 M'145 O146:Rws) (r147 co148:Nat),U.Jb n'143 c'91 L'144 d'93 M'145 (U.jRest (U.jL1 v2 v3) y142)→U.jRw (U.jGone (U.jL1 v2 v3) y142) O146 r147 co148→∃ (y149:JBP),(((c'91=c'91∧d'93=d'93∧n'143=n'143)∧(64:Int)=64)∧U.Jb n'143 c'91 L'144 d'93 M'145 y149)∧(∀ (k150:Int) (v151:JBv),List.Mem (k150,v151) y149→v151.3=v2∧v151.4=v3→∀ (z152:Int),z152=(↑r147:Int)→(z152=1→((0:Int)≤0∧(0:Int)<(↑r147:Int))∧∀ (j153:Nat),(↑j153:Int)=(↑((0:Nat)):Int) + (0:Int)→j153<List.length O146∧∀ (z154:Int),z154=U.fi O146 j153 ((0:Nat))→∀ (z155:Int),z155=U.fi O146 j153 ((0:Nat) + (1:Nat))→∀ (z156:Int),z156=U.fi O146 j153 ((0:Nat) + (1:Nat) + (1:Nat))→∀ (z157:Int),z157=U.fi O146 j153 ((0:Nat) + (1:Nat) + (1:Nat) + (1:Nat))→∀ (z158:List Int),z158=U.fs O146 j153 ((0:Nat) + (1:Nat) + (1:Nat) + (1:Nat) + (1:Nat))→∀ (z159:List Int),z159=U.fs O146 j153 ((0:Nat) + (1:Nat) + (1:Nat) + (1:Nat) + (1:Nat) + (1:Nat))→∀ (z160:Int),z160=U.fi O146 j153 ((0:Nat) + (1:Nat) + (1:Nat) + (1:Nat) + (1:Nat) + (1:Nat) + (1:Nat))→v0=v0∧v1=v1∧v2=v2∧v3=v3∧v4=v4∧v5=v5∧v6=v6∧U.cellAt O146 j153 ((0:Nat)) (CV.i z154)∧U.cellAt O146 j153 ((0:Nat) + (1:Nat)) (CV.i z155)∧U.cellAt O146 j153 ((0:Nat) + (1:Nat) + (1:Nat)) (CV.i z156)∧U.cellAt O146 j153 ((0:Nat) + (1:Nat) + (1:Nat) + (1:Nat)) (CV.i z157)∧U.cellAt O146 j153 ((0:Nat) + (1:Nat) + (1:Nat) + (1:Nat) + (1:Nat)) (CV.s z158)∧U.cellAt O146 j153 ((0:Nat) + (1:Nat) + (1:Nat) + (1:Nat) + (1:Nat) + (1:Nat)) (CV.s z159)∧U.cellAt O146 j153 ((0:Nat) + (1:Nat) + (1:Nat) + (1:Nat) + (1:Nat) + (1:Nat) + (1:Nat)) (CV.i z160)∧(z154=v0∧z155=v1∧(z156=v2∧z157=v3∧True)∧z158=v4∧z159=v5∧z160=v6∧True→Err [(200:Nat)])∧(¬(z154=v0∧z155=v1∧(z156=v2∧z157=v3∧True)∧z158=v4∧z159=v5∧z160=v6∧True)→Err [(200:Nat)]))∧(¬z152=1→Err [(200:Nat)]))∧((∀ (p161:Int × JBv),List.Mem p161 y149→¬(p161.2.3=v2∧p161.2.4=v3))→∀ (z162:Int),z162=(↑r147:Int)→(z162=1→((0:Int)≤0∧(0:Int)<(↑r147:Int))∧∀ (j163:Nat),(↑j163:Int)=(↑((0:Nat)):Int) + (0:Int)→j163<List.length O146∧∀ (z164:Int),z164=U.fi O146 j163 ((0:Nat))→∀ (z165:Int),z165=U.fi O146 j163 ((0:Nat) + (1:Nat))→∀ (z166:Int),z166=U.fi O146 j163 ((0:Nat) + (1:Nat) + (1:Nat))→∀ (z167:Int),z167=U.fi O146 j163 ((0:Nat) + (1:Nat) + (1:Nat) + (1:Nat))→∀ (z168:List Int),z168=U.fs O146 j163 ((0:Nat) + (1:Nat) + (1:Nat) + (1:Nat) + (1:Nat))→∀ (z169:List Int),z169=U.fs O146 j163 ((0:Nat) + (1:Nat) + (1:Nat) + (1:Nat) + (1:Nat) + (1:Nat))→∀ (z170:Int),z170=U.fi O146 j163 ((0:Nat) + (1:Nat) + (1:Nat) + (1:Nat) + (1:Nat) + (1:Nat) + (1:Nat))→v0=v0∧v1=v1∧v2=v2∧v3=v3∧v4=v4∧v5=v5∧v6=v6∧U.cellAt O146 j163 ((0:Nat)) (CV.i z164)∧U.cellAt O146 j163 ((0:Nat) + (1:Nat)) (CV.i z165)∧U.cellAt O146 j163 ((0:Nat) + (1:Nat) + (1:Nat)) (CV.i z166)∧U.cellAt O146 j163 ((0:Nat) + (1:Nat) + (1:Nat) + (1:Nat)) (CV.i z167)∧U.cellAt O146 j163 ((0:Nat) + (1:Nat) + (1:Nat) + (1:Nat) + (1:Nat)) (CV.s z168)∧U.cellAt O146 j163 ((0:Nat) + (1:Nat) + (1:Nat) + (1:Nat) + (1:Nat) + (1:Nat)) (CV.s z169)∧U.cellAt O146 j163 ((0:Nat) + (1:Nat) + (1:Nat) + (1:Nat) + (1:Nat) + (1:Nat) + (1:Nat)) (CV.i z170)∧(z164=v0∧z165=v1∧(z166=v2∧z167=v3∧True)∧z168=v4∧z169=v5∧z170=v6∧True→v0=v0∧v1=v1∧v2=v2∧v3=v3∧v4=v4∧v5=v5∧v6=v6∧U.cellAt O146 j163 ((0:Nat)) (CV.i z164)∧U.cellAt O146 j163 ((0:Nat) + (1:Nat)) (CV.i z165)∧U.cellAt O146 j163 ((0:Nat) + (1:Nat) + (1:Nat)) (CV.i z166)∧U.cellAt O146 j163 ((0:Nat) + (1:Nat) + (1:Nat) + (1:Nat)) (CV.i z167)∧U.cellAt O146 j163 ((0:Nat) + (1:Nat) + (1:Nat) + (1:Nat) + (1:Nat)) (CV.s z168)∧U.cellAt O146 j163 ((0:Nat) + (1:Nat) + (1:Nat) + (1:Nat) + (1:Nat) + (1:Nat)) (CV.s z169)∧U.cellAt O146 j163 ((0:Nat) + (1:Nat) + (1:Nat) + (1:Nat) + (1:Nat) + (1:Nat) + (1:Nat)) (CV.i z170)∧True)∧(¬(z164=v0∧z165=v1∧(z166=v2∧z167=v3∧True)∧z168=v4∧z169=v5∧z170=v6∧True)→Err [(200:Nat)]))∧(¬z162=1→Err [(200:Nat)]))))))))∧((∀ (p171:Int × JBv),List.Mem p171 y101→¬(p171.2.3=v2∧p171.2.4=v3))→∃ (y172:JBP),(((c'91=c'91∧d'93=d'93∧n'90=n'90)∧(64:Int)=64)∧U.Jb n'90 c'91 L'92 d'93 M'94 y172)∧∀ (v0173 v1174 v2175 v3176:Int) (v4177 v5178:List Int) (v6179 e180:Int),U.jCk y172 v2 v3 v0 v1 ⟨v0173,v1174,v2175,v3176,v4177,v5178,v6179⟩ e180→Err [(200:Nat)]))∧((∀ (p181:Int × JBv),List.Mem p181 y98→¬p181.2.2=v1)→∃ (y182:JBP),(((c'91=c'91∧d'93=d'93∧n'90=n'90)∧(64:Int)=64)∧U.Jb n'90 c'91 L'92 d'93 M'94 y182)∧(∀ (k183:Int) (v184:JBv),List.Mem (k183,v184) y182→v184.3=v2∧v184.4=v3→∃ (y185:JBP),(((c'91=c'91∧d'93=d'93∧n'90=n'90)∧(64:Int)=64)∧U.Jb n'90 c'91 L'92 d'93 M'94 y185)∧∀ (v0186 v1187 v2188 v3189:Int) (v4190 v5191:List Int) (v6192 e193:Int),U.jCk y185 v2 v3 v0 v1 ⟨v0186,v1187,v2188,v3189,v4190,v5191,v6192⟩ e193→Err [(200:Nat)])∧((∀ (p194:Int × JBv),List.Mem p194 y182→¬(p194.2.3=v2∧p194.2.4=v3))→∃ (y195:JBP),(((c'91=c'91∧d'93=d'93∧n'90=n'90)∧(64:Int)=64)∧U.Jb n'90 c'91 L'92 d'93 M'94 y195)∧∀ (v0196 v1197 v2198 v3199:Int) (v4200 v5201:List Int) (v6202 e203:Int),U.jCk y195 v2 v3 v0 v1 ⟨v0196,v1197,v2198,v3199,v4200,v5201,v6202⟩ e203→Err [(200:Nat)])))∧(¬U.jMay ⟨v0,v1,v2,v3,v4,v5,v6⟩→Err [(200:Nat)])))) := by kernel_rfl
end Go.Proofs.Ytgopjjimafcgjaa
end

section
set_option linter.unusedVariables false
set_option linter.unusedSimpArgs false
set_option maxRecDepth 10000
namespace Go.Proofs.Ytgopjjimafcgjaa
open Go Reck Ost
set_option maxHeartbeats 8000000 in
theorem bindFinds_run (A : List (List CV)) (s c0 : Nat) (v0 v1 v2 v3 : Int) (v4 v5 : List Int) (v6 : Int) (hA : s = A.length) (hs : s ≤ 9223372036854775807) : runB (invJT 0 0 0 0) tJl 7 [cell (rslC ⟨0, 12, 0, s, c0⟩), jbA v0 v1 v2 v3 v4 v5 v6] ⟨[], [], 0, [some (jopB A)], 0⟩ := by
  rw [bindFinds_vc]
  intro z0 h0
  refine ⟨?_, ?_⟩
  · refine ⟨(0, (0, (0, ([], (0, ([], ([], (0, 0)))))))), ?_⟩
    repeat' (first | exact rfl | with_reducible apply And.intro)
    exact ⟨by dsimp only; omega, ⟨[], jb_nil, jrw_nil⟩⟩
  rintro ⟨i, n, c, L, d, M, W, w, cw⟩ hI
  obtain ⟨i0, hW⟩ := hI
  dsimp only at i0 hW ⊢
  refine ⟨fun hlt => ⟨⟨i0, by omega⟩, fun j hj => ⟨by omega, fun z4 _ z5 _ z6 _ z7 _ z8 _ z9 _ z10 _ z11 _ z12 _ z13 _ z14 _ z15 _ => ⟨fun h50 a16 b17 d18 _ _ _ => ⟨by repeat' (first | exact rfl | exact hW | with_reducible apply And.intro), fun z h => ?_, fun n' L' M' W' w' cw' hW' z h => ?_, fun n' c' L' d' M' W' w' cw' hW' z h => ?_⟩, fun h50 z h => ?_⟩⟩⟩, fun hge => ?_⟩
  · have e := iw h (by omega)
    refine ⟨(z, (n, (c, (L, (d, (M, (W, (w, cw)))))))), ?_⟩
    repeat' (first | exact rfl | with_reducible apply And.intro)
    · exact ⟨by dsimp only; omega, hW⟩
    · dsimp only; omega
  · have e := iw h (by omega)
    refine ⟨(z, (n', (c, (L', (d, (M', (W', (w', cw')))))))), ?_⟩
    repeat' (first | exact rfl | with_reducible apply And.intro)
    · exact ⟨by dsimp only; omega, hW'⟩
    · dsimp only; omega
  · have e := iw h (by omega)
    refine ⟨(z, (n', (c', (L', (d', (M', (W', (w', cw')))))))), ?_⟩
    repeat' (first | exact rfl | with_reducible apply And.intro)
    · exact ⟨by dsimp only; omega, hW'⟩
    · dsimp only; omega
  · have e := iw h (by omega)
    refine ⟨(z, (n, (c, (L, (d, (M, (W, (w, cw)))))))), ?_⟩
    repeat' (first | exact rfl | with_reducible apply And.intro)
    · exact ⟨by dsimp only; omega, hW⟩
    · dsimp only; omega
  · obtain ⟨P, hJ, hR⟩ := hW
    refine ⟨P, ⟨by repeat' (first | exact rfl | with_reducible apply And.intro), hJ⟩, fun hm => ⟨fun h => (hm h).elim, fun _ => trivial⟩, fun hm n' c' L' d' M' O r co hJ2 hG => ⟨fun _ => ?_, fun h => (h hm).elim⟩⟩
    obtain ⟨Q, hQ⟩ : ∃ Q, Q = U.jAdd ⟨v0, v1, v2, v3, v4, v5, v6⟩ P := ⟨_, rfl⟩
    rw [← hQ] at hJ2
    have hmem : (v0, (⟨v0, v1, v2, v3, v4, v5, v6⟩ : JBv)) ∈ Q := by rw [hQ]; exact jins_mem.2 (.inl rfl)
    have hip : ∀ k w, (k, w) ∈ Q → w.v1 = v1 → w = ⟨v0, v1, v2, v3, v4, v5, v6⟩ := fun k w h e => by
      have := hJ2.i.ip _ _ _ _ h hmem e
      subst this; exact jbone hJ2.s.srt h hmem
    have hpl : ∀ k w, (k, w) ∈ Q → w.v2 = v2 ∧ w.v3 = v3 → k = v0 ∧ w = ⟨v0, v1, v2, v3, v4, v5, v6⟩ := fun k w h e => by
      have := hJ2.i.pl _ _ _ _ h hmem e.1 e.2
      subst this; exact ⟨rfl, jbone hJ2.s.srt h hmem⟩
    have hone : U.jGone (U.jL1 v2 v3) Q = [(v0, ⟨v0, v1, v2, v3, v4, v5, v6⟩)] := by
      refine j_srt_eq ⟨hJ2.s.srt.out.sublist List.filter_sublist⟩ ⟨List.pairwise_singleton _ _⟩ ?_
      rintro ⟨k, w⟩
      rw [jgone_mem, List.mem_singleton]
      constructor
      · rintro ⟨h, g⟩
        obtain ⟨rfl, rfl⟩ := hpl k w h (of_decide_eq_true g)
        rfl
      · intro h
        simp only [Prod.mk.injEq] at h
        obtain ⟨rfl, rfl⟩ := h
        exact ⟨hmem, decide_eq_true ⟨rfl, rfl⟩⟩
    refine ⟨Q, ⟨by repeat' (first | exact rfl | with_reducible apply And.intro), hJ2⟩, fun k1 w1 h1 e1 => ⟨Q, ⟨by repeat' (first | exact rfl | with_reducible apply And.intro), hJ2⟩, fun k2 w2 h2 e2 => ⟨Q, ⟨by repeat' (first | exact rfl | with_reducible apply And.intro), hJ2⟩, fun a0 a1 a2 a3 a4 a5 a6 e hC => ?_⟩, fun hno => (hno _ hmem ⟨rfl, rfl⟩).elim⟩, fun hno => (hno _ hmem rfl).elim⟩
    have g1 := hip k1 w1 h1 e1
    have g2 := (hpl k2 w2 h2 e2).2
    subst g1 g2
    have hck : (⟨a0, a1, a2, a3, a4, a5, a6⟩ : JBv) = ⟨v0, v1, v2, v3, v4, v5, v6⟩ ∧ ((v5 = [] ∧ e = 41) ∨ (¬ v5 = [] ∧ e = 0)) := by
      by_cases h5 : v5 = []
      · have := jck_fun hJ2.i hJ2.s.srt hC ⟨.inl ⟨_, _, hmem, ⟨rfl, rfl⟩, .inr ⟨⟨rfl, rfl⟩, rfl, .inl ⟨h5, rfl⟩⟩⟩⟩
        exact ⟨this.1, .inl ⟨h5, this.2⟩⟩
      · have := jck_fun hJ2.i hJ2.s.srt hC ⟨.inl ⟨_, _, hmem, ⟨rfl, rfl⟩, .inr ⟨⟨rfl, rfl⟩, rfl, .inr ⟨h5, rfl⟩⟩⟩⟩
        exact ⟨this.1, .inr ⟨h5, this.2⟩⟩
    obtain ⟨q1, q2⟩ := hck
    simp only [JBv.mk.injEq] at q1
    obtain ⟨b0, b1, b2, b3, b4, b5, b6⟩ := q1
    obtain rfl : v0 = a0 := b0.symm
    obtain rfl : v1 = a1 := b1.symm
    obtain rfl : v2 = a2 := b2.symm
    obtain rfl : v3 = a3 := b3.symm
    obtain rfl : v4 = a4 := b4.symm
    obtain rfl : v5 = a5 := b5.symm
    obtain rfl : v6 = a6 := b6.symm
    repeat' (first | exact rfl | (intro hx; exact (hx ⟨rfl, rfl, ⟨rfl, rfl, trivial⟩, rfl, rfl, rfl, trivial⟩).elim) | with_reducible apply And.intro)
    intro _
    repeat' (first | exact rfl | (intro hx; exact (hx ⟨rfl, rfl, ⟨rfl, rfl, trivial⟩, rfl, rfl, rfl, trivial⟩).elim) | with_reducible apply And.intro)
    intro _
    repeat' (first | exact rfl | (intro hx; exact (hx ⟨rfl, rfl, ⟨rfl, rfl, trivial⟩, rfl, rfl, rfl, trivial⟩).elim) | with_reducible apply And.intro)
    intro _
    refine ⟨fun he => ⟨fun h5 => ?_, fun h5 => ?_⟩, fun he => ⟨fun h5 => ?_, fun h5 => ?_⟩⟩
    · refine ⟨Q, ⟨by repeat' (first | exact rfl | with_reducible apply And.intro), hJ2⟩, fun n3 L3 M3 O3 r3 co3 hJ3 hG3 => ⟨_, ⟨by repeat' (first | exact rfl | with_reducible apply And.intro), hJ3⟩, fun k w hw hp => ?_, fun _ z hz => ⟨fun _ => ⟨⟨by omega, ?_⟩, fun j hj => ⟨?_, ?_⟩⟩, fun h => (h ?_).elim⟩⟩⟩
      · have := (List.mem_filter.1 hw).2
        have h9 : U.jL1 v2 v3 (k, w) = false := by simpa using this
        exact (of_decide_eq_false h9 hp).elim
      all_goals
        rw [hone] at hG3
        obtain ⟨o1, o2, o3, o4⟩ := hG3
        have o2 : r3 = 1 := o2
      · omega
      · rw [o1]; show j < 1; omega
      · obtain rfl : j = 0 := by omega
        subst o1
        intro z0 h0 z1 h1 z2 h2 z3 h3 z4 h4 z5 h5 z6 h6
        obtain rfl : v0 = z0 := Eq.symm h0
        obtain rfl : v1 = z1 := Eq.symm h1
        obtain rfl : v2 = z2 := Eq.symm h2
        obtain rfl : v3 = z3 := Eq.symm h3
        obtain rfl : v4 = z4 := Eq.symm h4
        obtain rfl : v5 = z5 := Eq.symm h5
        obtain rfl : v6 = z6 := Eq.symm h6
        repeat' (first | exact rfl | exact trivial | exact ⟨_, rfl, rfl⟩ | (intro hx; exact (hx ⟨rfl, rfl, ⟨rfl, rfl, trivial⟩, rfl, rfl, rfl, trivial⟩).elim) | with_reducible apply And.intro | intro _)
      · omega
    · exfalso
      rcases q2 with ⟨_, h⟩ | ⟨h, _⟩
      · omega
      · exact h5 h
    · exfalso
      rcases q2 with ⟨h, _⟩ | ⟨_, h⟩
      · exact h5 h
      · exact he h
    · refine ⟨Q, ⟨by repeat' (first | exact rfl | with_reducible apply And.intro), hJ2⟩, fun n3 L3 M3 O3 r3 co3 hJ3 hG3 => ⟨_, ⟨by repeat' (first | exact rfl | with_reducible apply And.intro), hJ3⟩, fun k w hw hp => ?_, fun _ z hz => ⟨fun _ => ⟨⟨by omega, ?_⟩, fun j hj => ⟨?_, ?_⟩⟩, fun h => (h ?_).elim⟩⟩⟩
      · have := (List.mem_filter.1 hw).2
        have h9 : U.jL1 v2 v3 (k, w) = false := by simpa using this
        exact (of_decide_eq_false h9 hp).elim
      all_goals
        rw [hone] at hG3
        obtain ⟨o1, o2, o3, o4⟩ := hG3
        have o2 : r3 = 1 := o2
      · omega
      · rw [o1]; show j < 1; omega
      · obtain rfl : j = 0 := by omega
        subst o1
        intro z0 h0 z1 h1 z2 h2 z3 h3 z4 h4 z5 h5 z6 h6
        obtain rfl : v0 = z0 := Eq.symm h0
        obtain rfl : v1 = z1 := Eq.symm h1
        obtain rfl : v2 = z2 := Eq.symm h2
        obtain rfl : v3 = z3 := Eq.symm h3
        obtain rfl : v4 = z4 := Eq.symm h4
        obtain rfl : v5 = z5 := Eq.symm h5
        obtain rfl : v6 = z6 := Eq.symm h6
        repeat' (first | exact rfl | exact trivial | exact ⟨_, rfl, rfl⟩ | (intro hx; exact (hx ⟨rfl, rfl, ⟨rfl, rfl, trivial⟩, rfl, rfl, rfl, trivial⟩).elim) | with_reducible apply And.intro | intro _)
      · omega
theorem bindFinds_walk (A : Option Addr) (len cap : Nat) (R : List (List CV)) (s : BdI) (w : World) (hR : CameR opKs w A len cap R) (hs : s.ok w) :
    Calls Try.prog 7 #[.slice A len cap, s.val] w fun e w' => e = .returned (.bool true) ∧ Only (fun _ => False) w w' := by
  obtain ⟨h1, h2, q, h3, h4⟩ := came_ok hR
  exact call_trueB (conOk_ofR tJl_ok) (bindFinds_run R len cap s.z0 s.z1 s.z2 s.z3 (bz s.s4) (bz s.s5) s.z6 h1 h2) h3 (vs := [.slice A len cap, s.val]) (by
    simp only [List.map_cons, List.map_nil]
    rw [h4, show (jbA s.z0 s.z1 s.z2 s.z3 (bz s.s4) (bz s.s5) s.z6 : AV) = .inl (.inr (jbC s.z0 s.z1 s.z2 s.z3 (bz s.s4) (bz s.s5) s.z6)) from rfl, bd_av])
end Go.Proofs.Ytgopjjimafcgjaa
end
