/- Parts of a proof, one behind the other: JT3 JW2. No condition. -/
import Derived.Test.YtgopjjimafcgjaaGJ
section
namespace Go.Proofs.Ytgopjjimafcgjaa
open Go Reck Ost
set_option linter.unusedVariables false
set_option maxRecDepth 100000
--PLAIN
theorem bindApart_vc (A:List (List CV)) (s c0:Nat):(runB (invJT 0 0 0 0) tJl 5 [cell (rslC ⟨0,12,0,s,c0⟩)] ⟨[],[],0,[some (jopB A)],0⟩)=(∀ (z0:Int),z0=(↑s:Int)→(∃ (y1:Int × Nat × Nat × Rws × Nat × Rws × Rws × Nat × Nat),((0:Nat)=0∧0=y1.2.2.2.2.2.2.2.1∧0=y1.2.2.2.2.2.2.2.2)∧((0:Nat)=0∧s=s∧c0=c0)∧z0=z0∧0=y1.1∧((0:Nat)=0∧0=y1.2.1∧0=y1.2.2.1)∧((0:Nat)=0∧0=y1.2.1∧0=y1.2.2.2.2.1)∧(64:Int)=64∧(A=A∧(0:Nat)=0∧true=true)∧(U.nilL=y1.2.2.2.1∧0=y1.2.2.1∧false=false)∧(U.nilL=y1.2.2.2.2.2.1∧0=y1.2.2.2.2.1∧false=false)∧(U.nilL=y1.2.2.2.2.2.2.1∧0=y1.2.2.2.2.2.2.2.2∧false=false)∧U.jlI y1.1 y1.2.1 y1.2.2.1 y1.2.2.2.1 y1.2.2.2.2.1 y1.2.2.2.2.2.1 y1.2.2.2.2.2.2.1 y1.2.2.2.2.2.2.2.1 y1.2.2.2.2.2.2.2.2)∧∀ (x2:Int × Nat × Nat × Rws × Nat × Rws × Rws × Nat × Nat),U.jlI x2.1 x2.2.1 x2.2.2.1 x2.2.2.2.1 x2.2.2.2.2.1 x2.2.2.2.2.2.1 x2.2.2.2.2.2.2.1 x2.2.2.2.2.2.2.2.1 x2.2.2.2.2.2.2.2.2→(x2.1<z0→(0≤x2.1∧x2.1<(↑s:Int))∧∀ (j3:Nat),(↑j3:Int)=(↑((0:Nat)):Int) + x2.1→j3<List.length A∧∀ (z4:Int),z4=U.fi A j3 ((0:Nat))→∀ (z5:Int),z5=U.fi A j3 ((0:Nat) + (1:Nat))→∀ (z6:Int),z6=U.fi A j3 ((0:Nat) + (1:Nat) + (1:Nat))→∀ (z7:Int),z7=U.fi A j3 ((0:Nat) + (1:Nat) + (1:Nat) + (1:Nat))→∀ (z8:Int),z8=U.fi A j3 ((0:Nat) + (1:Nat) + (1:Nat) + (1:Nat) + (1:Nat))→∀ (z9:List Int),z9=U.fs A j3 ((0:Nat) + (1:Nat) + (1:Nat) + (1:Nat) + (1:Nat) + (1:Nat))→∀ (z10:List Int),z10=U.fs A j3 ((0:Nat) + (1:Nat) + (1:Nat) + (1:Nat) + (1:Nat) + (1:Nat) + (1:Nat))→∀ (z11:Int),z11=U.fi A j3 ((0:Nat) + (1:Nat) + (1:Nat) + (1:Nat) + (1:Nat) + (1:Nat) + (1:Nat) + (1:Nat))→∀ (z12:Int),z12=U.fi A j3 ((0:Nat) + (1:Nat) + (1:Nat) + (1:Nat) + (1:Nat) + (1:Nat) + (1:Nat) + (1:Nat) + (1:Nat))→∀ (z13:Int),z13=U.fi A j3 ((0:Nat) + (1:Nat) + (1:Nat) + (1:Nat) + (1:Nat) + (1:Nat) + (1:Nat) + (1:Nat) + (1:Nat) + (1:Nat))→∀ (z14:List Int),z14=U.fs A j3 ((0:Nat) + (1:Nat) + (1:Nat) + (1:Nat) + (1:Nat) + (1:Nat) + (1:Nat) + (1:Nat) + (1:Nat) + (1:Nat) + (1:Nat))→∀ (z15:Int),z15=U.fi A j3 ((0:Nat) + (1:Nat) + (1:Nat) + (1:Nat) + (1:Nat) + (1:Nat) + (1:Nat) + (1:Nat) + (1:Nat) + (1:Nat) + (1:Nat) + (1:Nat))→(50≤x2.1→True)∧(¬50≤x2.1→∀ (a16 b17 d18:List Int),a16=U.jTk z9→b17=U.jTk z10→d18=U.jTk z14→(x2.2.2.2.2.2.2.2.2=x2.2.2.2.2.2.2.2.2∧((x2.2.2.1=x2.2.2.1∧x2.2.2.2.2.1=x2.2.2.2.2.1∧x2.2.1=x2.2.1)∧(64:Int)=64)∧U.jW x2.2.1 x2.2.2.1 x2.2.2.2.1 x2.2.2.2.2.1 x2.2.2.2.2.2.1 x2.2.2.2.2.2.2.1 x2.2.2.2.2.2.2.2.1 x2.2.2.2.2.2.2.2.2)∧(∃ (y19:JBP),(((x2.2.2.1=x2.2.2.1∧x2.2.2.2.2.1=x2.2.2.2.2.1∧x2.2.1=x2.2.1)∧(64:Int)=64)∧U.Jb x2.2.1 x2.2.2.1 x2.2.2.2.1 x2.2.2.2.2.1 x2.2.2.2.2.2.1 y19)∧∀ (O20:Rws) (r21 co22:Nat),U.jRw y19 O20 r21 co22→∀ (z23:Int),z23=(↑r21:Int)→(∃ (y24:Int),((0:Nat)=0∧x2.2.2.2.2.2.2.2.1=x2.2.2.2.2.2.2.2.1∧x2.2.2.2.2.2.2.2.2=x2.2.2.2.2.2.2.2.2)∧((0:Nat)=0∧r21=r21∧co22=co22)∧((0:Nat)=0∧s=s∧c0=c0)∧z0=z0∧x2.1=x2.1∧((0:Nat)=0∧r21=r21∧co22=co22)∧z23=z23∧0=y24∧((0:Nat)=0∧x2.2.1=x2.2.1∧x2.2.2.1=x2.2.2.1)∧((0:Nat)=0∧x2.2.1=x2.2.1∧x2.2.2.2.2.1=x2.2.2.2.2.1)∧(64:Int)=64∧z4=z4∧z5=z5∧z6=z6∧z7=z7∧z8=z8∧z9=z9∧z10=z10∧z11=z11∧z12=z12∧z13=z13∧z14=z14∧z15=z15∧(A=A∧(0:Nat)=0∧true=true)∧(x2.2.2.2.1=x2.2.2.2.1∧x2.2.2.1=x2.2.2.1∧false=false)∧(x2.2.2.2.2.2.1=x2.2.2.2.2.2.1∧x2.2.2.2.2.1=x2.2.2.2.2.1∧false=false)∧(x2.2.2.2.2.2.2.1=x2.2.2.2.2.2.2.1∧x2.2.2.2.2.2.2.2.2=x2.2.2.2.2.2.2.2.2∧false=false)∧(O20=O20∧co22=co22∧false=false)∧U.jiI r21 y24)∧∀ (x25:Int),U.jiI r21 x25→(x25<z23→(0≤x25∧x25<(↑r21:Int))∧∀ (j26:Nat),(↑j26:Int)=(↑((0:Nat)):Int) + x25→j26<List.length O20∧∀ (z27:Int),z27=U.fi O20 j26 ((0:Nat))→∀ (z28:Int),z28=U.fi O20 j26 ((0:Nat) + (1:Nat))→∀ (z29:Int),z29=U.fi O20 j26 ((0:Nat) + (1:Nat) + (1:Nat))→∀ (z30:Int),z30=U.fi O20 j26 ((0:Nat) + (1:Nat) + (1:Nat) + (1:Nat))→∀ (z31:List Int),z31=U.fs O20 j26 ((0:Nat) + (1:Nat) + (1:Nat) + (1:Nat) + (1:Nat))→∀ (z32:List Int),z32=U.fs O20 j26 ((0:Nat) + (1:Nat) + (1:Nat) + (1:Nat) + (1:Nat) + (1:Nat))→∀ (z33:Int),z33=U.fi O20 j26 ((0:Nat) + (1:Nat) + (1:Nat) + (1:Nat) + (1:Nat) + (1:Nat) + (1:Nat))→((0:Int)≤0∧0≤x25∧x25≤(↑co22:Int))∧∀ (o34 n35 c36:Nat),((↑o34:Int)=if (↑co22:Int)=Option.getD none (0:Int) then (↑((0:Nat)):Int) else (0:Int))→(↑n35:Int)=x25 - (0:Int)→(↑c36:Int)=(↑co22:Int) - (0:Int)→∀ (z37:Int),z37=(↑n35:Int)→(∃ (y38:Int),((0:Nat)=0∧x2.2.2.2.2.2.2.2.1=x2.2.2.2.2.2.2.2.1∧x2.2.2.2.2.2.2.2.2=x2.2.2.2.2.2.2.2.2)∧((0:Nat)=0∧r21=r21∧co22=co22)∧((0:Nat)=0∧s=s∧c0=c0)∧z0=z0∧x2.1=x2.1∧((0:Nat)=0∧r21=r21∧co22=co22)∧z23=z23∧x25=x25∧(o34=o34∧n35=n35∧c36=c36)∧z37=z37∧0=y38∧((0:Nat)=0∧x2.2.1=x2.2.1∧x2.2.2.1=x2.2.2.1)∧((0:Nat)=0∧x2.2.1=x2.2.1∧x2.2.2.2.2.1=x2.2.2.2.2.1)∧(64:Int)=64∧z4=z4∧z5=z5∧z6=z6∧z7=z7∧z8=z8∧z9=z9∧z10=z10∧z11=z11∧z12=z12∧z13=z13∧z14=z14∧z15=z15∧z27=z27∧z28=z28∧z29=z29∧z30=z30∧z31=z31∧z32=z32∧z33=z33∧(A=A∧(0:Nat)=0∧true=true)∧(x2.2.2.2.1=x2.2.2.2.1∧x2.2.2.1=x2.2.2.1∧false=false)∧(x2.2.2.2.2.2.1=x2.2.2.2.2.2.1∧x2.2.2.2.2.1=x2.2.2.2.2.1∧false=false)∧(x2.2.2.2.2.2.2.1=x2.2.2.2.2.2.2.1∧x2.2.2.2.2.2.2.2.2=x2.2.2.2.2.2.2.2.2∧false=false)∧(O20=O20∧co22=co22∧false=false)∧U.jiI n35 y38)∧∀ (x39:Int),U.jiI n35 x39→(x39<z37→(0≤x39∧x39<(↑n35:Int))∧∀ (j40:Nat),(↑j40:Int)=(↑o34:Int) + x39→j40<List.length O20∧∀ (z41:Int),z41=U.fi O20 j40 ((0:Nat))→∀ (z42:Int),z42=U.fi O20 j40 ((0:Nat) + (1:Nat))→∀ (z43:Int),z43=U.fi O20 j40 ((0:Nat) + (1:Nat) + (1:Nat))→∀ (z44:Int),z44=U.fi O20 j40 ((0:Nat) + (1:Nat) + (1:Nat) + (1:Nat))→∀ (z45:List Int),z45=U.fs O20 j40 ((0:Nat) + (1:Nat) + (1:Nat) + (1:Nat) + (1:Nat))→∀ (z46:List Int),z46=U.fs O20 j40 ((0:Nat) + (1:Nat) + (1:Nat) + (1:Nat) + (1:Nat) + (1:Nat))→∀ (z47:Int),z47=U.fi O20 j40 ((0:Nat) + (1:Nat) + (1:Nat) + (1:Nat) + (1:Nat) + (1:Nat) + (1:Nat))→(z27≤z41→Err [(200:Nat)])∧(¬z27≤z41→(z28=z42→Err [(200:Nat)])∧(¬z28=z42→(z29=z43∧z30=z44∧True→Err [(200:Nat)])∧(¬(z29=z43∧z30=z44∧True)→∀ (z48:Int),z48=IntKind.wrap .i64 (x39 + (1:Int))→∃ (y49:Int),((0:Nat)=0∧x2.2.2.2.2.2.2.2.1=x2.2.2.2.2.2.2.2.1∧x2.2.2.2.2.2.2.2.2=x2.2.2.2.2.2.2.2.2)∧((0:Nat)=0∧r21=r21∧co22=co22)∧((0:Nat)=0∧s=s∧c0=c0)∧z0=z0∧x2.1=x2.1∧((0:Nat)=0∧r21=r21∧co22=co22)∧z23=z23∧x25=x25∧(o34=o34∧n35=n35∧c36=c36)∧z37=z37∧z48=y49∧((0:Nat)=0∧x2.2.1=x2.2.1∧x2.2.2.1=x2.2.2.1)∧((0:Nat)=0∧x2.2.1=x2.2.1∧x2.2.2.2.2.1=x2.2.2.2.2.1)∧(64:Int)=64∧z4=z4∧z5=z5∧z6=z6∧z7=z7∧z8=z8∧z9=z9∧z10=z10∧z11=z11∧z12=z12∧z13=z13∧z14=z14∧z15=z15∧z27=z27∧z28=z28∧z29=z29∧z30=z30∧z31=z31∧z32=z32∧z33=z33∧(A=A∧(0:Nat)=0∧true=true)∧(x2.2.2.2.1=x2.2.2.2.1∧x2.2.2.1=x2.2.2.1∧false=false)∧(x2.2.2.2.2.2.1=x2.2.2.2.2.2.1∧x2.2.2.2.2.1=x2.2.2.2.2.1∧false=false)∧(x2.2.2.2.2.2.2.1=x2.2.2.2.2.2.2.1∧x2.2.2.2.2.2.2.2.2=x2.2.2.2.2.2.2.2.2∧false=false)∧(O20=O20∧co22=co22∧false=false)∧U.jiI n35 y49∧Int.toNat (↑n35:Int) - Int.toNat y49<Int.toNat (↑n35:Int) - Int.toNat x39))))∧(¬x39<z37→∀ (z50:Int),z50=IntKind.wrap .i64 (x25 + (1:Int))→∃ (y51:Int),((0:Nat)=0∧x2.2.2.2.2.2.2.2.1=x2.2.2.2.2.2.2.2.1∧x2.2.2.2.2.2.2.2.2=x2.2.2.2.2.2.2.2.2)∧((0:Nat)=0∧r21=r21∧co22=co22)∧((0:Nat)=0∧s=s∧c0=c0)∧z0=z0∧x2.1=x2.1∧((0:Nat)=0∧r21=r21∧co22=co22)∧z23=z23∧z50=y51∧((0:Nat)=0∧x2.2.1=x2.2.1∧x2.2.2.1=x2.2.2.1)∧((0:Nat)=0∧x2.2.1=x2.2.1∧x2.2.2.2.2.1=x2.2.2.2.2.1)∧(64:Int)=64∧z4=z4∧z5=z5∧z6=z6∧z7=z7∧z8=z8∧z9=z9∧z10=z10∧z11=z11∧z12=z12∧z13=z13∧z14=z14∧z15=z15∧(A=A∧(0:Nat)=0∧true=true)∧(x2.2.2.2.1=x2.2.2.2.1∧x2.2.2.1=x2.2.2.1∧false=false)∧(x2.2.2.2.2.2.1=x2.2.2.2.2.2.1∧x2.2.2.2.2.1=x2.2.2.2.2.1∧false=false)∧(x2.2.2.2.2.2.2.1=x2.2.2.2.2.2.2.1∧x2.2.2.2.2.2.2.2.2=x2.2.2.2.2.2.2.2.2∧false=false)∧(O20=O20∧co22=co22∧false=false)∧U.jiI r21 y51∧Int.toNat (↑r21:Int) - Int.toNat y51<Int.toNat (↑r21:Int) - Int.toNat x25))∧(¬x25<z23→∀ (z52:Int),z52=IntKind.wrap .i64 (x2.1 + (1:Int))→∃ (y53:Int × Nat × Nat × Rws × Nat × Rws × Rws × Nat × Nat),((0:Nat)=0∧x2.2.2.2.2.2.2.2.1=y53.2.2.2.2.2.2.2.1∧x2.2.2.2.2.2.2.2.2=y53.2.2.2.2.2.2.2.2)∧((0:Nat)=0∧s=s∧c0=c0)∧z0=z0∧z52=y53.1∧((0:Nat)=0∧x2.2.1=y53.2.1∧x2.2.2.1=y53.2.2.1)∧((0:Nat)=0∧x2.2.1=y53.2.1∧x2.2.2.2.2.1=y53.2.2.2.2.1)∧(64:Int)=64∧(A=A∧(0:Nat)=0∧true=true)∧(x2.2.2.2.1=y53.2.2.2.1∧x2.2.2.1=y53.2.2.1∧false=false)∧(x2.2.2.2.2.2.1=y53.2.2.2.2.2.1∧x2.2.2.2.2.1=y53.2.2.2.2.1∧false=false)∧(x2.2.2.2.2.2.2.1=y53.2.2.2.2.2.2.1∧x2.2.2.2.2.2.2.2.2=y53.2.2.2.2.2.2.2.2∧false=false)∧U.jlI y53.1 y53.2.1 y53.2.2.1 y53.2.2.2.1 y53.2.2.2.2.1 y53.2.2.2.2.2.1 y53.2.2.2.2.2.2.1 y53.2.2.2.2.2.2.2.1 y53.2.2.2.2.2.2.2.2∧Int.toNat (↑s:Int) - Int.toNat y53.1<Int.toNat (↑s:Int) - Int.toNat x2.1))∧(∀ (n'54:Nat) (L'55 M'56 W'57:Rws) (w'58 cw'59:Nat),U.jW n'54 x2.2.2.1 L'55 x2.2.2.2.2.1 M'56 W'57 w'58 cw'59→∃ (y60:JBP),(((x2.2.2.1=x2.2.2.1∧x2.2.2.2.2.1=x2.2.2.2.2.1∧n'54=n'54)∧(64:Int)=64)∧U.Jb n'54 x2.2.2.1 L'55 x2.2.2.2.2.1 M'56 y60)∧∀ (O61:Rws) (r62 co63:Nat),U.jRw y60 O61 r62 co63→∀ (z64:Int),z64=(↑r62:Int)→(∃ (y65:Int),((0:Nat)=0∧w'58=w'58∧cw'59=cw'59)∧((0:Nat)=0∧r62=r62∧co63=co63)∧((0:Nat)=0∧s=s∧c0=c0)∧z0=z0∧x2.1=x2.1∧((0:Nat)=0∧r62=r62∧co63=co63)∧z64=z64∧0=y65∧((0:Nat)=0∧n'54=n'54∧x2.2.2.1=x2.2.2.1)∧((0:Nat)=0∧n'54=n'54∧x2.2.2.2.2.1=x2.2.2.2.2.1)∧(64:Int)=64∧z4=z4∧z5=z5∧z6=z6∧z7=z7∧z8=z8∧z9=z9∧z10=z10∧z11=z11∧z12=z12∧z13=z13∧z14=z14∧z15=z15∧(A=A∧(0:Nat)=0∧true=true)∧(L'55=L'55∧x2.2.2.1=x2.2.2.1∧false=false)∧(M'56=M'56∧x2.2.2.2.2.1=x2.2.2.2.2.1∧false=false)∧(x2.2.2.2.2.2.2.1=x2.2.2.2.2.2.2.1∧x2.2.2.2.2.2.2.2.2=x2.2.2.2.2.2.2.2.2∧false=false)∧(W'57=W'57∧cw'59=cw'59∧false=false)∧(O61=O61∧co63=co63∧false=false)∧U.jiI r62 y65)∧∀ (x66:Int),U.jiI r62 x66→(x66<z64→(0≤x66∧x66<(↑r62:Int))∧∀ (j67:Nat),(↑j67:Int)=(↑((0:Nat)):Int) + x66→j67<List.length O61∧∀ (z68:Int),z68=U.fi O61 j67 ((0:Nat))→∀ (z69:Int),z69=U.fi O61 j67 ((0:Nat) + (1:Nat))→∀ (z70:Int),z70=U.fi O61 j67 ((0:Nat) + (1:Nat) + (1:Nat))→∀ (z71:Int),z71=U.fi O61 j67 ((0:Nat) + (1:Nat) + (1:Nat) + (1:Nat))→∀ (z72:List Int),z72=U.fs O61 j67 ((0:Nat) + (1:Nat) + (1:Nat) + (1:Nat) + (1:Nat))→∀ (z73:List Int),z73=U.fs O61 j67 ((0:Nat) + (1:Nat) + (1:Nat) + (1:Nat) + (1:Nat) + (1:Nat))→∀ (z74:Int),z74=U.fi O61 j67 ((0:Nat) + (1:Nat) + (1:Nat) + (1:Nat) + (1:Nat) + (1:Nat) + (1:Nat))→((0:Int)≤0∧0≤x66∧x66≤(↑co63:Int))∧∀ (o75 n76 c77:Nat),((↑o75:Int)=if (↑co63:Int)=Option.getD none (0:Int) then (↑((0:Nat)):Int) else (0:Int))→(↑n76:Int)=x66 - (0:Int)→(↑c77:Int)=(↑co63:Int) - (0:Int)→∀ (z78:Int),z78=(↑n76:Int)→(∃ (y79:Int),((0:Nat)=0∧w'58=w'58∧cw'59=cw'59)∧((0:Nat)=0∧r62=r62∧co63=co63)∧((0:Nat)=0∧s=s∧c0=c0)∧z0=z0∧x2.1=x2.1∧((0:Nat)=0∧r62=r62∧co63=co63)∧z64=z64∧x66=x66∧(o75=o75∧n76=n76∧c77=c77)∧z78=z78∧0=y79∧((0:Nat)=0∧n'54=n'54∧x2.2.2.1=x2.2.2.1)∧((0:Nat)=0∧n'54=n'54∧x2.2.2.2.2.1=x2.2.2.2.2.1)∧(64:Int)=64∧z4=z4∧z5=z5∧z6=z6∧z7=z7∧z8=z8∧z9=z9∧z10=z10∧z11=z11∧z12=z12∧z13=z13∧z14=z14∧z15=z15∧z68=z68∧z69=z69∧z70=z70∧z71=z71∧z72=z72∧z73=z73∧z74=z74∧(A=A∧(0:Nat)=0∧true=true)∧(L'55=L'55∧x2.2.2.1=x2.2.2.1∧false=false)∧(M'56=M'56∧x2.2.2.2.2.1=x2.2.2.2.2.1∧false=false)∧(x2.2.2.2.2.2.2.1=x2.2.2.2.2.2.2.1∧x2.2.2.2.2.2.2.2.2=x2.2.2.2.2.2.2.2.2∧false=false)∧(W'57=W'57∧cw'59=cw'59∧false=false)∧(O61=O61∧co63=co63∧false=false)∧U.jiI n76 y79)∧∀ (x80:Int),U.jiI n76 x80→(x80<z78→(0≤x80∧x80<(↑n76:Int))∧∀ (j81:Nat),(↑j81:Int)=(↑o75:Int) + x80→j81<List.length O61∧∀ (z82:Int),z82=U.fi O61 j81 ((0:Nat))→∀ (z83:Int),z83=U.fi O61 j81 ((0:Nat) + (1:Nat))→∀ (z84:Int),z84=U.fi O61 j81 ((0:Nat) + (1:Nat) + (1:Nat))→∀ (z85:Int),z85=U.fi O61 j81 ((0:Nat) + (1:Nat) + (1:Nat) + (1:Nat))→∀ (z86:List Int),z86=U.fs O61 j81 ((0:Nat) + (1:Nat) + (1:Nat) + (1:Nat) + (1:Nat))→∀ (z87:List Int),z87=U.fs O61 j81 ((0:Nat) + (1:Nat) + (1:Nat) + (1:Nat) + (1:Nat) + (1:Nat))→∀ (z88:Int),z88=U.fi O61 j81 ((0:Nat) + (1:Nat) + (1:Nat) + (1:Nat) + (1:Nat) + (1:Nat) + (1:Nat))→(z68≤z82→Err [(200:Nat)])∧(¬z68≤z82→(z69=z83→Err [(200:Nat)])∧(¬z69=z83→(z70=z84∧z71=z85∧True→Err [(200:Nat)])∧(¬(z70=z84∧z71=z85∧True)→∀ (z89:Int),z89=IntKind.wrap .i64 (x80 + (1:Int))→∃ (y90:Int),((0:Nat)=0∧w'58=w'58∧cw'59=cw'59)∧((0:Nat)=0∧r62=r62∧co63=co63)∧((0:Nat)=0∧s=s∧c0=c0)∧z0=z0∧x2.1=x2.1∧((0:Nat)=0∧r62=r62∧co63=co63)∧z64=z64∧x66=x66∧(o75=o75∧n76=n76∧c77=c77)∧z78=z78∧z89=y90∧((0:Nat)=0∧n'54=n'54∧x2.2.2.1=x2.2.2.1)∧((0:Nat)=0∧n'54=n'54∧x2.2.2.2.2.1=x2.2.2.2.2.1)∧(64:Int)=64∧z4=z4∧z5=z5∧z6=z6∧z7=z7∧z8=z8∧z9=z9∧z10=z10∧z11=z11∧z12=z12∧z13=z13∧z14=z14∧z15=z15∧z68=z68∧z69=z69∧z70=z70∧z71=z71∧z72=z72∧z73=z73∧z74=z74∧(A=A∧(0:Nat)=0∧true=true)∧(L'55=L'55∧x2.2.2.1=x2.2.2.1∧false=false)∧(M'56=M'56∧x2.2.2.2.2.1=x2.2.2.2.2.1∧false=false)∧(x2.2.2.2.2.2.2.1=x2.2.2.2.2.2.2.1∧x2.2.2.2.2.2.2.2.2=x2.2.2.2.2.2.2.2.2∧false=false)∧(W'57=W'57∧cw'59=cw'59∧false=false)∧(O61=O61∧co63=co63∧false=false)∧U.jiI n76 y90∧Int.toNat (↑n76:Int) - Int.toNat y90<Int.toNat (↑n76:Int) - Int.toNat x80))))∧(¬x80<z78→∀ (z91:Int),z91=IntKind.wrap .i64 (x66 + (1:Int))→∃ (y92:Int),((0:Nat)=0∧w'58=w'58∧cw'59=cw'59)∧((0:Nat)=0∧r62=r62∧co63=co63)∧((0:Nat)=0∧s=s∧c0=c0)∧z0=z0∧x2.1=x2.1∧((0:Nat)=0∧r62=r62∧co63=co63)∧z64=z64∧z91=y92∧((0:Nat)=0∧n'54=n'54∧x2.2.2.1=x2.2.2.1)∧((0:Nat)=0∧n'54=n'54∧x2.2.2.2.2.1=x2.2.2.2.2.1)∧(64:Int)=64∧z4=z4∧z5=z5∧z6=z6∧z7=z7∧z8=z8∧z9=z9∧z10=z10∧z11=z11∧z12=z12∧z13=z13∧z14=z14∧z15=z15∧(A=A∧(0:Nat)=0∧true=true)∧(L'55=L'55∧x2.2.2.1=x2.2.2.1∧false=false)∧(M'56=M'56∧x2.2.2.2.2.1=x2.2.2.2.2.1∧false=false)∧(x2.2.2.2.2.2.2.1=x2.2.2.2.2.2.2.1∧x2.2.2.2.2.2.2.2.2=x2.2.2.2.2.2.2.2.2∧false=false)∧(W'57=W'57∧cw'59=cw'59∧false=false)∧(O61=O61∧co63=co63∧false=false)∧U.jiI r62 y92∧Int.toNat (↑r62:Int) - Int.toNat y92<Int.toNat (↑r62:Int) - Int.toNat x66))∧(¬x66<z64→∀ (z93:Int),z93=IntKind.wrap .i64 (x2.1 + (1:Int))→∃ (y94:Int × Nat × Nat × Rws × Nat × Rws × Rws × Nat × Nat),((0:Nat)=0∧w'58=y94.2.2.2.2.2.2.2.1∧cw'59=y94.2.2.2.2.2.2.2.2)∧((0:Nat)=0∧s=s∧c0=c0)∧z0=z0∧z93=y94.1∧((0:Nat)=0∧n'54=y94.2.1∧x2.2.2.1=y94.2.2.1)∧((0:Nat)=0∧n'54=y94.2.1∧x2.2.2.2.2.1=y94.2.2.2.2.1)∧(64:Int)=64∧(A=A∧(0:Nat)=0∧true=true)∧(L'55=y94.2.2.2.1∧x2.2.2.1=y94.2.2.1∧false=false)∧(M'56=y94.2.2.2.2.2.1∧x2.2.2.2.2.1=y94.2.2.2.2.1∧false=false)∧(W'57=y94.2.2.2.2.2.2.1∧cw'59=y94.2.2.2.2.2.2.2.2∧false=false)∧U.jlI y94.1 y94.2.1 y94.2.2.1 y94.2.2.2.1 y94.2.2.2.2.1 y94.2.2.2.2.2.1 y94.2.2.2.2.2.2.1 y94.2.2.2.2.2.2.2.1 y94.2.2.2.2.2.2.2.2∧Int.toNat (↑s:Int) - Int.toNat y94.1<Int.toNat (↑s:Int) - Int.toNat x2.1))∧∀ (n'95 c'96:Nat) (L'97:Rws) (d'98:Nat) (M'99 W'100:Rws) (w'101 cw'102:Nat),U.jW n'95 c'96 L'97 d'98 M'99 W'100 w'101 cw'102→∃ (y103:JBP),(((c'96=c'96∧d'98=d'98∧n'95=n'95)∧(64:Int)=64)∧U.Jb n'95 c'96 L'97 d'98 M'99 y103)∧∀ (O104:Rws) (r105 co106:Nat),U.jRw y103 O104 r105 co106→∀ (z107:Int),z107=(↑r105:Int)→(∃ (y108:Int),((0:Nat)=0∧w'101=w'101∧cw'102=cw'102)∧((0:Nat)=0∧r105=r105∧co106=co106)∧((0:Nat)=0∧s=s∧c0=c0)∧z0=z0∧x2.1=x2.1∧((0:Nat)=0∧r105=r105∧co106=co106)∧z107=z107∧0=y108∧((0:Nat)=0∧n'95=n'95∧c'96=c'96)∧((0:Nat)=0∧n'95=n'95∧d'98=d'98)∧(64:Int)=64∧z4=z4∧z5=z5∧z6=z6∧z7=z7∧z8=z8∧z9=z9∧z10=z10∧z11=z11∧z12=z12∧z13=z13∧z14=z14∧z15=z15∧(A=A∧(0:Nat)=0∧true=true)∧(x2.2.2.2.2.2.2.1=x2.2.2.2.2.2.2.1∧x2.2.2.2.2.2.2.2.2=x2.2.2.2.2.2.2.2.2∧false=false)∧(W'100=W'100∧cw'102=cw'102∧false=false)∧(L'97=L'97∧c'96=c'96∧false=false)∧(M'99=M'99∧d'98=d'98∧false=false)∧(O104=O104∧co106=co106∧false=false)∧U.jiI r105 y108)∧∀ (x109:Int),U.jiI r105 x109→(x109<z107→(0≤x109∧x109<(↑r105:Int))∧∀ (j110:Nat),(↑j110:Int)=(↑((0:Nat)):Int) + x109→j110<List.length O104∧∀ (z111:Int),z111=U.fi O104 j110 ((0:Nat))→∀ (z112:Int),z112=U.fi O104 j110 ((0:Nat) + (1:Nat))→∀ (z113:Int),z113=U.fi O104 j110 ((0:Nat) + (1:Nat) + (1:Nat))→∀ (z114:Int),z114=U.fi O104 j110 ((0:Nat) + (1:Nat) + (1:Nat) + (1:Nat))→∀ (z115:List Int),z115=U.fs O104 j110 ((0:Nat) + (1:Nat) + (1:Nat) + (1:Nat) + (1:Nat))→∀ (z116:List Int),z116=U.fs O104 j110 ((0:Nat) + (1:Nat) + (1:Nat) + (1:Nat) + (1:Nat) + (1:Nat))→∀ (z117:Int),z117=U.fi O104 j110 ((0:Nat) + (1:Nat) + (1:Nat) + (1:Nat) + (1:Nat) + (1:Nat) + (1:Nat))→((0:Int)≤0∧0≤x109∧x109≤(↑co106:Int))∧∀ (o118 n119 c120:Nat),((↑o118:Int)=if (↑co106:Int)=Option.getD none (0:Int) then (↑((0:Nat)):Int) else (0:Int))→(↑n119:Int)=x109 - (0:Int)→(↑c120:Int)=(↑co106:Int) - (0:Int)→∀ (z121:Int),z121=(↑n119:Int)→(∃ (y122:Int),((0:Nat)=0∧w'101=w'101∧cw'102=cw'102)∧((0:Nat)=0∧r105=r105∧co106=co106)∧((0:Nat)=0∧s=s∧c0=c0)∧z0=z0∧x2.1=x2.1∧((0:Nat)=0∧r105=r105∧co106=co106)∧z107=z107∧x109=x109∧(o118=o118∧n119=n119∧c120=c120)∧z121=z121∧0=y122∧((0:Nat)=0∧n'95=n'95∧c'96=c'96)∧((0:Nat)=0∧n'95=n'95∧d'98=d'98)∧(64:Int)=64∧z4=z4∧z5=z5∧z6=z6∧z7=z7∧z8=z8∧z9=z9∧z10=z10∧z11=z11∧z12=z12∧z13=z13∧z14=z14∧z15=z15∧z111=z111∧z112=z112∧z113=z113∧z114=z114∧z115=z115∧z116=z116∧z117=z117∧(A=A∧(0:Nat)=0∧true=true)∧(x2.2.2.2.2.2.2.1=x2.2.2.2.2.2.2.1∧x2.2.2.2.2.2.2.2.2=x2.2.2.2.2.2.2.2.2∧false=false)∧(W'100=W'100∧cw'102=cw'102∧false=false)∧(L'97=L'97∧c'96=c'96∧false=false)∧(M'99=M'99∧d'98=d'98∧false=false)∧(O104=O104∧co106=co106∧false=false)∧U.jiI n119 y122)∧∀ (x123:Int),U.jiI n119 x123→(x123<z121→(0≤x123∧x123<(↑n119:Int))∧∀ (j124:Nat),(↑j124:Int)=(↑o118:Int) + x123→j124<List.length O104∧∀ (z125:Int),z125=U.fi O104 j124 ((0:Nat))→∀ (z126:Int),z126=U.fi O104 j124 ((0:Nat) + (1:Nat))→∀ (z127:Int),z127=U.fi O104 j124 ((0:Nat) + (1:Nat) + (1:Nat))→∀ (z128:Int),z128=U.fi O104 j124 ((0:Nat) + (1:Nat) + (1:Nat) + (1:Nat))→∀ (z129:List Int),z129=U.fs O104 j124 ((0:Nat) + (1:Nat) + (1:Nat) + (1:Nat) + (1:Nat))→∀ (z130:List Int),z130=U.fs O104 j124 ((0:Nat) + (1:Nat) + (1:Nat) + (1:Nat) + (1:Nat) + (1:Nat))→∀ (z131:Int),z131=U.fi O104 j124 ((0:Nat) + (1:Nat) + (1:Nat) + (1:Nat) + (1:Nat) + (1:Nat) + (1:Nat))→(z111≤z125→Err [(200:Nat)])∧(¬z111≤z125→(z112=z126→Err [(200:Nat)])∧(¬z112=z126→(z113=z127∧z114=z128∧True→Err [(200:Nat)])∧(¬(z113=z127∧z114=z128∧True)→∀ (z132:Int),z132=IntKind.wrap .i64 (x123 + (1:Int))→∃ (y133:Int),((0:Nat)=0∧w'101=w'101∧cw'102=cw'102)∧((0:Nat)=0∧r105=r105∧co106=co106)∧((0:Nat)=0∧s=s∧c0=c0)∧z0=z0∧x2.1=x2.1∧((0:Nat)=0∧r105=r105∧co106=co106)∧z107=z107∧x109=x109∧(o118=o118∧n119=n119∧c120=c120)∧z121=z121∧z132=y133∧((0:Nat)=0∧n'95=n'95∧c'96=c'96)∧((0:Nat)=0∧n'95=n'95∧d'98=d'98)∧(64:Int)=64∧z4=z4∧z5=z5∧z6=z6∧z7=z7∧z8=z8∧z9=z9∧z10=z10∧z11=z11∧z12=z12∧z13=z13∧z14=z14∧z15=z15∧z111=z111∧z112=z112∧z113=z113∧z114=z114∧z115=z115∧z116=z116∧z117=z117∧(A=A∧(0:Nat)=0∧true=true)∧(x2.2.2.2.2.2.2.1=x2.2.2.2.2.2.2.1∧x2.2.2.2.2.2.2.2.2=x2.2.2.2.2.2.2.2.2∧false=false)∧(W'100=W'100∧cw'102=cw'102∧false=false)∧(L'97=L'97∧c'96=c'96∧false=false)∧(M'99=M'99∧d'98=d'98∧false=false)∧(O104=O104∧co106=co106∧false=false)∧U.jiI n119 y133∧Int.toNat (↑n119:Int) - Int.toNat y133<Int.toNat (↑n119:Int) - Int.toNat x123))))∧(¬x123<z121→∀ (z134:Int),z134=IntKind.wrap .i64 (x109 + (1:Int))→∃ (y135:Int),((0:Nat)=0∧w'101=w'101∧cw'102=cw'102)∧((0:Nat)=0∧r105=r105∧co106=co106)∧((0:Nat)=0∧s=s∧c0=c0)∧z0=z0∧x2.1=x2.1∧((0:Nat)=0∧r105=r105∧co106=co106)∧z107=z107∧z134=y135∧((0:Nat)=0∧n'95=n'95∧c'96=c'96)∧((0:Nat)=0∧n'95=n'95∧d'98=d'98)∧(64:Int)=64∧z4=z4∧z5=z5∧z6=z6∧z7=z7∧z8=z8∧z9=z9∧z10=z10∧z11=z11∧z12=z12∧z13=z13∧z14=z14∧z15=z15∧(A=A∧(0:Nat)=0∧true=true)∧(x2.2.2.2.2.2.2.1=x2.2.2.2.2.2.2.1∧x2.2.2.2.2.2.2.2.2=x2.2.2.2.2.2.2.2.2∧false=false)∧(W'100=W'100∧cw'102=cw'102∧false=false)∧(L'97=L'97∧c'96=c'96∧false=false)∧(M'99=M'99∧d'98=d'98∧false=false)∧(O104=O104∧co106=co106∧false=false)∧U.jiI r105 y135∧Int.toNat (↑r105:Int) - Int.toNat y135<Int.toNat (↑r105:Int) - Int.toNat x109))∧(¬x109<z107→∀ (z136:Int),z136=IntKind.wrap .i64 (x2.1 + (1:Int))→∃ (y137:Int × Nat × Nat × Rws × Nat × Rws × Rws × Nat × Nat),((0:Nat)=0∧w'101=y137.2.2.2.2.2.2.2.1∧cw'102=y137.2.2.2.2.2.2.2.2)∧((0:Nat)=0∧s=s∧c0=c0)∧z0=z0∧z136=y137.1∧((0:Nat)=0∧n'95=y137.2.1∧c'96=y137.2.2.1)∧((0:Nat)=0∧n'95=y137.2.1∧d'98=y137.2.2.2.2.1)∧(64:Int)=64∧(A=A∧(0:Nat)=0∧true=true)∧(L'97=y137.2.2.2.1∧c'96=y137.2.2.1∧false=false)∧(M'99=y137.2.2.2.2.2.1∧d'98=y137.2.2.2.2.1∧false=false)∧(W'100=y137.2.2.2.2.2.2.1∧cw'102=y137.2.2.2.2.2.2.2.2∧false=false)∧U.jlI y137.1 y137.2.1 y137.2.2.1 y137.2.2.2.1 y137.2.2.2.2.1 y137.2.2.2.2.2.1 y137.2.2.2.2.2.2.1 y137.2.2.2.2.2.2.2.1 y137.2.2.2.2.2.2.2.2∧Int.toNat (↑s:Int) - Int.toNat y137.1<Int.toNat (↑s:Int) - Int.toNat x2.1)))∧(¬x2.1<z0→True)) := by kernel_rfl
end Go.Proofs.Ytgopjjimafcgjaa
end

section
set_option linter.unusedVariables false
set_option linter.unusedSimpArgs false
set_option maxRecDepth 10000
namespace Go.Proofs.Ytgopjjimafcgjaa
open Go Reck Ost
theorem jlt {P : JBP} (hs : U.jbSrt P) {i j : Nat} {p p' : Int × JBv} (hi : P[i]? = some p) (hj : P[j]? = some p') (h : j < i) : p'.1 < p.1 := by
  obtain ⟨li, hi⟩ := List.getElem?_eq_some_iff.1 hi
  obtain ⟨lj, hj⟩ := List.getElem?_eq_some_iff.1 hj
  have := List.pairwise_iff_getElem.1 hs.out j i lj li h
  rw [hi, hj] at this; exact this
theorem jpair {n c : Nat} {L : Rws} {d : Nat} {M : Rws} {P : JBP} (hJ : U.Jb n c L d M P) {i j : Nat} {p p' : Int × JBv} (hi : P[i]? = some p) (hj : P[j]? = some p') (h : j < i) : ¬ p.2.v0 ≤ p'.2.v0 ∧ ¬ p.2.v1 = p'.2.v1 ∧ ¬ (p.2.v2 = p'.2.v2 ∧ p.2.v3 = p'.2.v3) := by
  have h1 := jlt hJ.s.srt hi hj h
  have m1 : (p.1, p.2) ∈ P := List.mem_of_getElem? hi
  have m2 : (p'.1, p'.2) ∈ P := List.mem_of_getElem? hj
  have w1 := (hJ.i.wf _ _ m1).1
  have w2 := (hJ.i.wf _ _ m2).1
  refine ⟨by omega, fun he => ?_, fun he => ?_⟩
  · have := hJ.i.ip _ _ _ _ m1 m2 he
    omega
  · have := hJ.i.pl _ _ _ _ m1 m2 he.1 he.2
    omega
set_option maxHeartbeats 8000000 in
theorem bindApart_run (A : List (List CV)) (s c0 : Nat) (hA : s = A.length) (hs : s ≤ 9223372036854775807) : runB (invJT 0 0 0 0) tJl 5 [cell (rslC ⟨0, 12, 0, s, c0⟩)] ⟨[], [], 0, [some (jopB A)], 0⟩ := by
  rw [bindApart_vc]
  intro z0 h0
  refine ⟨?_, ?_⟩
  · refine ⟨(0, (0, (0, ([], (0, ([], ([], (0, 0)))))))), ?_⟩
    repeat' (first | exact rfl | with_reducible apply And.intro)
    exact ⟨by dsimp only; omega, ⟨[], jb_nil, jrw_nil⟩⟩
  rintro ⟨i, n, c, L, d, M, W, w, cw⟩ hI
  obtain ⟨i0, hW⟩ := hI
  dsimp only at i0 hW ⊢
  refine ⟨fun hlt => ⟨⟨i0, by omega⟩, fun j hj => ⟨by omega, fun z4 _ z5 _ z6 _ z7 _ z8 _ z9 _ z10 _ z11 _ z12 _ z13 _ z14 _ z15 _ => ⟨fun _ => trivial, fun h50 a16 b17 d18 _ _ _ => ⟨by repeat' (first | exact rfl | exact hW | with_reducible apply And.intro), ?_, fun n' L' M' W' w' cw' hW' => ?_, fun n' c' L' d' M' W' w' cw' hW' => ?_⟩⟩⟩⟩, fun hge => trivial⟩
  · have hW' := hW
    obtain ⟨P, hJ, hR⟩ := hW'
    have hn' := jb_n hJ
    have hvl := jvs_len P
    refine ⟨P, ⟨by repeat' (first | exact rfl | with_reducible apply And.intro), hJ⟩, fun O r co hO z29 h29 => ⟨?_, ?_⟩⟩
    · refine ⟨0, ?_⟩
      repeat' (first | exact rfl | with_reducible apply And.intro)
      exact ⟨by omega, by omega⟩
    obtain ⟨o1, o2, o3, o4⟩ := hO
    subst o1
    rintro y ⟨y0, y1⟩
    refine ⟨fun hy => ⟨⟨y0, by omega⟩, fun j2 hj2 => ⟨by omega, ?_⟩⟩, fun hy z h => ?_⟩
    · obtain ⟨p, hp⟩ : ∃ p, P[j2]? = some p := ⟨_, List.getElem?_eq_getElem (show j2 < P.length by omega)⟩
      obtain ⟨f0, f1, f2, f3, f4, f5, f6⟩ := jb_fi hp
      rw [f0, f1, f2, f3, f4, f5, f6]
      rintro _ rfl _ rfl _ rfl _ rfl _ rfl _ rfl _ rfl
      refine ⟨⟨by omega, by omega, by omega⟩, fun o34 n35 c36 h34 h35 h36 z37 h37 => ⟨?_, ?_⟩⟩
      · refine ⟨0, ?_⟩
        repeat' (first | exact rfl | with_reducible apply And.intro)
        exact ⟨by omega, by omega⟩
      have h34 : o34 = 0 := by split at h34 <;> omega
      rintro v ⟨v0, v1⟩
      refine ⟨fun hv => ⟨⟨v0, by omega⟩, fun j3 hj3 => ⟨by omega, ?_⟩⟩, fun hv z h => ?_⟩
      · obtain ⟨p', hp'⟩ : ∃ p', P[j3]? = some p' := ⟨_, List.getElem?_eq_getElem (show j3 < P.length by omega)⟩
        obtain ⟨g0, g1, g2, g3, g4, g5, g6⟩ := jb_fi hp'
        have hpp := jpair hJ hp hp' (by omega)
        rw [g0, g1, g2, g3, g4, g5, g6]
        rintro _ rfl _ rfl _ rfl _ rfl _ rfl _ rfl _ rfl
        refine ⟨fun h => (hpp.1 h).elim, fun _ => ⟨fun h => (hpp.2.1 h).elim, fun _ => ⟨fun h => (hpp.2.2 ⟨h.1, h.2.1⟩).elim, fun _ z48 h48 => ?_⟩⟩⟩
        have e48 := iw h48 (by omega)
        refine ⟨z48, ?_⟩
        repeat' (first | exact rfl | with_reducible apply And.intro)
        · exact ⟨by omega, by omega⟩
        · omega
      · have e50 := iw h (by omega)
        refine ⟨z, ?_⟩
        repeat' (first | exact rfl | with_reducible apply And.intro)
        · exact ⟨by omega, by omega⟩
        · omega
    · have e := iw h (by omega)
      refine ⟨(z, (n, (c, (L, (d, (M, (W, (w, cw)))))))), ?_⟩
      repeat' (first | exact rfl | with_reducible apply And.intro)
      · exact ⟨by dsimp only; omega, ⟨P, hJ, hR⟩⟩
      · dsimp only; omega
  · skip
    obtain ⟨P, hJ, hR⟩ := hW'
    have hn' := jb_n hJ
    have hvl := jvs_len P
    refine ⟨P, ⟨by repeat' (first | exact rfl | with_reducible apply And.intro), hJ⟩, fun O r co hO z29 h29 => ⟨?_, ?_⟩⟩
    · refine ⟨0, ?_⟩
      repeat' (first | exact rfl | with_reducible apply And.intro)
      exact ⟨by omega, by omega⟩
    obtain ⟨o1, o2, o3, o4⟩ := hO
    subst o1
    rintro y ⟨y0, y1⟩
    refine ⟨fun hy => ⟨⟨y0, by omega⟩, fun j2 hj2 => ⟨by omega, ?_⟩⟩, fun hy z h => ?_⟩
    · obtain ⟨p, hp⟩ : ∃ p, P[j2]? = some p := ⟨_, List.getElem?_eq_getElem (show j2 < P.length by omega)⟩
      obtain ⟨f0, f1, f2, f3, f4, f5, f6⟩ := jb_fi hp
      rw [f0, f1, f2, f3, f4, f5, f6]
      rintro _ rfl _ rfl _ rfl _ rfl _ rfl _ rfl _ rfl
      refine ⟨⟨by omega, by omega, by omega⟩, fun o34 n35 c36 h34 h35 h36 z37 h37 => ⟨?_, ?_⟩⟩
      · refine ⟨0, ?_⟩
        repeat' (first | exact rfl | with_reducible apply And.intro)
        exact ⟨by omega, by omega⟩
      have h34 : o34 = 0 := by split at h34 <;> omega
      rintro v ⟨v0, v1⟩
      refine ⟨fun hv => ⟨⟨v0, by omega⟩, fun j3 hj3 => ⟨by omega, ?_⟩⟩, fun hv z h => ?_⟩
      · obtain ⟨p', hp'⟩ : ∃ p', P[j3]? = some p' := ⟨_, List.getElem?_eq_getElem (show j3 < P.length by omega)⟩
        obtain ⟨g0, g1, g2, g3, g4, g5, g6⟩ := jb_fi hp'
        have hpp := jpair hJ hp hp' (by omega)
        rw [g0, g1, g2, g3, g4, g5, g6]
        rintro _ rfl _ rfl _ rfl _ rfl _ rfl _ rfl _ rfl
        refine ⟨fun h => (hpp.1 h).elim, fun _ => ⟨fun h => (hpp.2.1 h).elim, fun _ => ⟨fun h => (hpp.2.2 ⟨h.1, h.2.1⟩).elim, fun _ z48 h48 => ?_⟩⟩⟩
        have e48 := iw h48 (by omega)
        refine ⟨z48, ?_⟩
        repeat' (first | exact rfl | with_reducible apply And.intro)
        · exact ⟨by omega, by omega⟩
        · omega
      · have e50 := iw h (by omega)
        refine ⟨z, ?_⟩
        repeat' (first | exact rfl | with_reducible apply And.intro)
        · exact ⟨by omega, by omega⟩
        · omega
    · have e := iw h (by omega)
      refine ⟨(z, (n', (c, (L', (d, (M', (W', (w', cw')))))))), ?_⟩
      repeat' (first | exact rfl | with_reducible apply And.intro)
      · exact ⟨by dsimp only; omega, ⟨P, hJ, hR⟩⟩
      · dsimp only; omega
  · skip
    obtain ⟨P, hJ, hR⟩ := hW'
    have hn' := jb_n hJ
    have hvl := jvs_len P
    refine ⟨P, ⟨by repeat' (first | exact rfl | with_reducible apply And.intro), hJ⟩, fun O r co hO z29 h29 => ⟨?_, ?_⟩⟩
    · refine ⟨0, ?_⟩
      repeat' (first | exact rfl | with_reducible apply And.intro)
      exact ⟨by omega, by omega⟩
    obtain ⟨o1, o2, o3, o4⟩ := hO
    subst o1
    rintro y ⟨y0, y1⟩
    refine ⟨fun hy => ⟨⟨y0, by omega⟩, fun j2 hj2 => ⟨by omega, ?_⟩⟩, fun hy z h => ?_⟩
    · obtain ⟨p, hp⟩ : ∃ p, P[j2]? = some p := ⟨_, List.getElem?_eq_getElem (show j2 < P.length by omega)⟩
      obtain ⟨f0, f1, f2, f3, f4, f5, f6⟩ := jb_fi hp
      rw [f0, f1, f2, f3, f4, f5, f6]
      rintro _ rfl _ rfl _ rfl _ rfl _ rfl _ rfl _ rfl
      refine ⟨⟨by omega, by omega, by omega⟩, fun o34 n35 c36 h34 h35 h36 z37 h37 => ⟨?_, ?_⟩⟩
      · refine ⟨0, ?_⟩
        repeat' (first | exact rfl | with_reducible apply And.intro)
        exact ⟨by omega, by omega⟩
      have h34 : o34 = 0 := by split at h34 <;> omega
      rintro v ⟨v0, v1⟩
      refine ⟨fun hv => ⟨⟨v0, by omega⟩, fun j3 hj3 => ⟨by omega, ?_⟩⟩, fun hv z h => ?_⟩
      · obtain ⟨p', hp'⟩ : ∃ p', P[j3]? = some p' := ⟨_, List.getElem?_eq_getElem (show j3 < P.length by omega)⟩
        obtain ⟨g0, g1, g2, g3, g4, g5, g6⟩ := jb_fi hp'
        have hpp := jpair hJ hp hp' (by omega)
        rw [g0, g1, g2, g3, g4, g5, g6]
        rintro _ rfl _ rfl _ rfl _ rfl _ rfl _ rfl _ rfl
        refine ⟨fun h => (hpp.1 h).elim, fun _ => ⟨fun h => (hpp.2.1 h).elim, fun _ => ⟨fun h => (hpp.2.2 ⟨h.1, h.2.1⟩).elim, fun _ z48 h48 => ?_⟩⟩⟩
        have e48 := iw h48 (by omega)
        refine ⟨z48, ?_⟩
        repeat' (first | exact rfl | with_reducible apply And.intro)
        · exact ⟨by omega, by omega⟩
        · omega
      · have e50 := iw h (by omega)
        refine ⟨z, ?_⟩
        repeat' (first | exact rfl | with_reducible apply And.intro)
        · exact ⟨by omega, by omega⟩
        · omega
    · have e := iw h (by omega)
      refine ⟨(z, (n', (c', (L', (d', (M', (W', (w', cw')))))))), ?_⟩
      repeat' (first | exact rfl | with_reducible apply And.intro)
      · exact ⟨by dsimp only; omega, ⟨P, hJ, hR⟩⟩
      · dsimp only; omega
theorem bindApart_walk (A : Option Addr) (len cap : Nat) (R : List (List CV)) (w : World) (hR : CameR opKs w A len cap R) :
    Calls Try.prog 5 #[.slice A len cap] w fun e w' => e = .returned (.bool true) ∧ Only (fun _ => False) w w' := by
  obtain ⟨h1, h2, q, h3, h4⟩ := came_ok hR
  exact call_trueB (conOk_ofR tJl_ok) (bindApart_run R len cap h1 h2) h3 (vs := [.slice A len cap]) (by
    simp only [List.map_cons, List.map_nil]
    rw [h4])
end Go.Proofs.Ytgopjjimafcgjaa
end
